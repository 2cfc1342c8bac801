package elf

// span is what a field may be: the numbers from least to most. The zero span is the number 0 alone.
type span struct {
	least, most uint64
}

// field is a number of the header or of an entry. It has width bytes, the lowest one first.
type field struct {
	width int
	may   span
}

func just(n int) span {
	return span{uint64(n), uint64(n)}
}

func upTo(n int) span {
	return span{0, uint64(n)}
}

// none gives a span without a number.
func none() span {
	return span{1, 0}
}

// lay puts fields behind b, each as the least number that it may be.
func lay(b []byte, fields ...field) []byte {
	for _, f := range fields {
		for k := range f.width {
			b = append(b, byte(f.may.least>>(8*k)))
		}
	}
	return b
}

// fault gives the place in b of the first field that is not what it may be, and whether there is one.
func fault(b []byte, fields ...field) (int, bool) {
	place := 0
	for _, f := range fields {
		n := number(b[place : place+f.width])
		if n < f.may.least || n > f.may.most {
			return place, true
		}
		place += f.width
	}
	return 0, false
}

// numbers gives what stands in b for each field.
func numbers(b []byte, fields ...field) []int {
	ns := make([]int, 0, len(fields))
	place := 0
	for _, f := range fields {
		ns = append(ns, int(number(b[place:place+f.width])))
		place += f.width
	}
	return ns
}

func number(b []byte) uint64 {
	var n uint64
	for k, part := range b {
		n |= uint64(part) << (8 * k)
	}
	return n
}

// head gives the fields of the header. Those that stand fixed are given byte by byte, because a fault of theirs is told by the byte.
func head(table, count, last span) []field {
	fields := bytewise(
		field{8, just(0x0001_0102_464c_457f)}, field{8, just(0)},
		field{2, just(1)}, field{2, just(247)}, field{4, just(1)},
		field{8, just(0)}, field{8, just(0)},
	)
	fields = append(fields, field{8, table})
	fields = append(fields, bytewise(
		field{4, just(0)},
		field{2, just(headSize)}, field{2, just(0)}, field{2, just(0)}, field{2, just(entrySize)},
	)...)
	return append(fields, field{2, count}, field{2, last})
}

// bytewise cuts fields that may be one number each into fields of one byte.
func bytewise(fields ...field) []field {
	var cut []field
	for _, part := range lay(nil, fields...) {
		cut = append(cut, field{1, just(int(part))})
	}
	return cut
}

// row is an entry of the table: what each of its fields may be.
type row struct {
	name, kind, flags, place, size, link, info, align, entSize span
}

func (r row) fields() []field {
	return []field{
		{4, r.name}, {4, r.kind}, {8, r.flags}, {8, just(0)}, {8, r.place}, {8, r.size},
		{4, r.link}, {4, r.info}, {8, r.align}, {8, r.entSize},
	}
}
