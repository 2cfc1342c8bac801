package image

// numberSize is how many bytes a number has.
const numberSize = 4

// tape is bytes that are gone through from the front on: laid, or taken up.
type tape struct {
	bytes  []byte
	at     int
	taking bool
}

// numbers lays numbers, each lowest byte first, or takes them up. It is one function for both ways, so that no two orders of fields can differ.
func (t *tape) numbers(ns ...*int) {
	for _, n := range ns {
		b := t.bytes[t.at : t.at+numberSize]
		if t.taking {
			*n = int(b[0]) | int(b[1])<<8 | int(b[2])<<16 | int(b[3])<<24
		} else {
			b[0], b[1], b[2], b[3] = byte(*n), byte(*n>>8), byte(*n>>16), byte(*n>>24)
		}
		t.at += numberSize
	}
}
