package tests

// diceOf answers a dice that rolls 0 .. n - 1, the same rolls for the same seed.
func diceOf(seed uint32) func(n int) int {
	return func(n int) int {
		seed = seed*1664525 + 1013904223
		return int(seed>>16) % n
	}
}
