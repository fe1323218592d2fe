// Package cursor is layer 1: see shared/doc/01-cursor.md.
package cursor

import "bytes"

const (
	// longest is how many bytes a text has at most: its count is one byte.
	longest = 255
	// most is how many bytes an answer has at most, as far as any is promised.
	most = 1<<31 - 1
)

// Writer lays numbers and bytes, one behind the other.
type Writer struct {
	laid []byte
}

// U8, U16, U32, U64: numbers, one behind the other.
func (w *Writer) U8(l ...uint8) *Writer { return w.Raw(l) }

func (w *Writer) U16(l ...uint16) *Writer { return lay(w, 2, l) }

func (w *Writer) U32(l ...uint32) *Writer { return lay(w, 4, l) }

func (w *Writer) U64(l ...uint64) *Writer { return lay(w, 8, l) }

// Raw: bytes as they are.
func (w *Writer) Raw(p []byte) *Writer {
	if w != nil {
		w.laid = append(w.laid, p...)
	}
	return w
}

// Text: how many bytes a text has (one byte; those beyond 255 are cut), and these.
func (w *Writer) Text(s string) *Writer {
	s = s[:min(len(s), longest)]
	return w.U8(uint8(len(s))).Raw([]byte(s))
}

// Pad: noughts up to a length. A length that no answer can have asks for memory that may not be there: nothing is laid then.
func (w *Writer) Pad(n int) *Writer {
	if w == nil || n <= len(w.laid) || n > most {
		return w
	}
	return w.Raw(make([]byte, n-len(w.laid)))
}

// Bytes: all that was laid.
func (w *Writer) Bytes() []byte {
	if w == nil {
		return nil
	}
	return bytes.Clone(w.laid)
}

// lay: numbers of a size, the lowest byte of each first.
func lay[N uint16 | uint32 | uint64](w *Writer, size int, l []N) *Writer {
	if w == nil {
		return nil
	}
	for _, n := range l {
		for i := range size {
			w.laid = append(w.laid, byte(n>>(8*i)))
		}
	}
	return w
}
