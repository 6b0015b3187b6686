package mean

// operator is what an Op between two makes of their values.
func operator(op string) func(a, b int64) int64 {
	switch op {
	case "+":
		return func(a, b int64) int64 { return a + b }
	case "-":
		return func(a, b int64) int64 { return a - b }
	case "*":
		return func(a, b int64) int64 { return a * b }
	case "/":
		return quotient
	case "mod":
		return rest
	case "=":
		return func(a, b int64) int64 { return truth(a == b) }
	case "<>":
		return func(a, b int64) int64 { return truth(a != b) }
	case "<":
		return func(a, b int64) int64 { return truth(a < b) }
	case "<=":
		return func(a, b int64) int64 { return truth(a <= b) }
	case ">":
		return func(a, b int64) int64 { return truth(a > b) }
	case ">=":
		return func(a, b int64) int64 { return truth(a >= b) }
	case "and":
		return func(a, b int64) int64 { return a & b }
	case "or":
		return func(a, b int64) int64 { return a | b }
	case "xor":
		return func(a, b int64) int64 { return a ^ b }
	}
	return func(int64, int64) int64 { return 0 }
}

func quotient(a, b int64) int64 {
	if b == 0 {
		return 0
	}
	return a / b
}

func rest(a, b int64) int64 {
	if b == 0 {
		return 0
	}
	return a % b
}

func truth(is bool) int64 {
	if is {
		return 1
	}
	return 0
}
