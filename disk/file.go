package disk

import "slices"

// file of bytes, of which the first ones are safe.
type file struct {
	bytes []byte
	safe  int
}

// left gives what a crash leaves of a file: another one, because two names may have been safe for this one.
func (f *file) left(keep int) *file {
	rest := len(f.bytes) - f.safe
	n := f.safe + min(max(keep, 0), rest)
	return &file{bytes: slices.Clone(f.bytes[:n]), safe: n}
}
