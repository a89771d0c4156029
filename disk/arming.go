package disk

// arming is at which operation a disk is to crash, and what survives then.
type arming struct {
	left  int // operations up to the crash, it included; 0: not armed
	stays func(n int) bool
}

// due counts an operation, and tells whether the disk crashes at it.
func (a *arming) due() bool {
	if a.left == 0 {
		return false
	}
	a.left--
	return a.left == 0
}

// selection returns whether the n-th cached sector survives a crash that is given the bytes stay.
func selection(stay []byte) func(n int) bool {
	// An array of its own: stay may change before the crash, and may be shorter or longer than is needed.
	var bits [mostSectors / 8]byte
	copy(bits[:], stay)
	return func(n int) bool { return bits[n/8]>>(n%8)&1 == 1 }
}
