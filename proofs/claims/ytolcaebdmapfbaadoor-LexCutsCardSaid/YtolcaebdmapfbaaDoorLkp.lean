/-
  What package lex's Kept does.
-/
import Derived.Test.YtolcaebdmapfbaaDoorShelf
import Derived.WalkKit
import Derived.Lib.Hide
namespace Go.Proofs.YtolcaebdmapfbaaDoor
open Go Go.RowKit

def KEPT : List (List UInt8) := [[110,111,100,101],[114,101,116,117,114,110,115],[118,97,114],[108,101,116],[116,101,108],[98,111,111,108],[105,110,116],[116,114,117,101],[102,97,108,115,101],[110,111,116],[97,110,100],[111,114],[120,111,114],[109,111,100],[105,102],[116,104,101,110],[101,108,115,101],[112,114,101],[102,98,121],[119,104,101,110],[109,101,114,103,101]]
def keptB (l : List UInt8) : Bool := KEPT.contains l

set_option maxHeartbeats 2000000 in
set_option maxRecDepth 100000 in
theorem Kept_any (s : ByteArray) (w : World) : Calls Tryd.prog 10 #[.string s] w fun e w' => e = .returned (.bool (keptB s.data.toList)) ∧ w' = w := by
  obtain ⟨b, hb⟩ : ∃ b, b = keptB s.data.toList := ⟨_, rfl⟩
  rw [← hb]
  have HB := Lib.hid hb
  clear hb
  go_enter Tryd.func10, Tryd.ntmps10
  go_wp2
  all_goals
    have hb := HB.out
    rw [← Lib.toList_data] at hb
    clear HB
    generalize s.toList = L at *
    first
    | (exfalso; simp_all; done)
    | (go_ret
       first
       | (refine ⟨congrArg (fun x => Ending.returned (Value.bool x)) (?_ : true = b), rfl⟩
          rw [hb]
          unfold keptB KEPT
          simp only [List.contains_cons, *, Bool.or_true, Bool.true_or])
       | (refine ⟨congrArg (fun x => Ending.returned (Value.bool x)) (?_ : false = b), rfl⟩
          rw [hb]
          unfold keptB KEPT
          simp only [List.contains_cons, List.contains_nil, *, Bool.or_self]))
end Go.Proofs.YtolcaebdmapfbaaDoor
