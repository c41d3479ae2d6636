package wire

import "quorum/api"

// layer is the name that every refusal of this package carries.
const layer = "wire"

// refusal makes a fault of this layer.
func refusal(at int, why api.Errno) error {
	return &api.Fault{Layer: layer, At: at, Err: why}
}

// firstFault is what a Writer and a Reader have in common: whether it was made by its call, and the first refusal. It is kept as numbers, so that each telling is a Fault of its own that nobody else can change.
type firstFault struct {
	made  bool
	place int
	why   api.Errno
}

// sound tells whether fields are still taken.
func (f *firstFault) sound() bool { return f.made && f.why == api.OK }

// fail notes a refusal; those behind the first are let go.
func (f *firstFault) fail(at int, why api.Errno) {
	if f.sound() {
		f.place, f.why = at, why
	}
}

// told gives the first refusal as an error.
func (f *firstFault) told() error {
	switch {
	case !f.made:
		return refusal(0, api.ErrZero)
	case f.why != api.OK:
		return refusal(f.place, f.why)
	}
	return nil
}
