package frame

import "agora/api"

// The first byte of a piece, and of an acknowledgement; how many bytes their number has, and what stands ahead of the data.
const (
	pieceMark = 1
	ackMark   = 2
	seqWide   = 8
	linkHead  = 1 + seqWide
)

// isLink tells whether a link has bytes.
func isLink(l api.Link) bool {
	most := api.MaxPiece
	if l.Ack {
		most = 0
	}
	return l.Seq >= 0 && len(l.Data) <= most
}

// digits tells a number as so many bytes, the highest first.
func digits(n int64, wide int) []byte {
	b := make([]byte, wide)
	for i := range b {
		b[wide-1-i] = byte(n >> (8 * i))
	}
	return b
}

// number tells the number of bytes, the highest first.
func number(b []byte) int64 {
	n := int64(0)
	for _, digit := range b {
		n = n<<8 | int64(digit)
	}
	return n
}
