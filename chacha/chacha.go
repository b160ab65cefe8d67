// Package chacha makes a stream of bytes by a key: ChaCha20. See DOC.md, chapter 1.
package chacha

import (
	"math/bits"

	"deaddrop/api"
)

const (
	wordSize  = 4
	wordCount = 16
	blockSize = wordSize * wordCount

	// Where the key, the counter and the nonce begin among the words.
	keyAt     = 4
	counterAt = 12
	nonceAt   = 13

	rounds     = 10
	maxCounter = 1<<32 - 1
	opening    = "expand 32-byte k"
)

// block is the sixteen words that are stirred.
type block [wordCount]uint32

// Block is the 64 bytes of the stream that counter names; it is empty where
// the key, the nonce or the counter is none.
func Block(key, nonce string, counter int) string {
	if !fits(key, nonce, counter, 1) {
		return ""
	}
	first := start(key, nonce, counter)
	stream := first.stirred()
	// Noughts, xor the stream, are the stream.
	var out [blockSize]byte
	stream.xorInto(out[:])
	return string(out[:])
}

// Xor is b, xor the stream from the block counter on; it is nothing where one
// of the blocks that b asks for would be empty.
func Xor(key, nonce string, counter int, b []byte) []byte {
	if len(b) == 0 || !fits(key, nonce, counter, blocksOf(len(b))) {
		return nil
	}
	out := make([]byte, len(b))
	copy(out, b)
	next := start(key, nonce, counter)
	for rest := out; len(rest) > 0; {
		part := rest[:min(blockSize, len(rest))]
		stream := next.stirred()
		stream.xorInto(part)
		rest = rest[len(part):]
		// Behind the last block this may wrap round, but no block is made of it.
		next[counterAt]++
	}
	return out
}

// fits tells whether there are so many blocks (one at least) from counter on.
func fits(key, nonce string, counter, blocks int) bool {
	if len(key) != api.KeySize || len(nonce) != api.NonceSize {
		return false
	}
	// Nothing is added to counter, which may be as great as an int can be.
	return counter >= 0 && counter <= maxCounter-(blocks-1)
}

// blocksOf tells how many blocks n bytes (one at least) ask for.
func blocksOf(n int) int {
	return 1 + (n-1)/blockSize
}

// start is the words ahead of the rounds.
func start(key, nonce string, counter int) block {
	var w block
	fill(w[:keyAt], opening)
	fill(w[keyAt:counterAt], key)
	w[counterAt] = uint32(counter)
	fill(w[nonceAt:], nonce)
	return w
}

// fill takes each word from four bytes of s, the lowest first.
func fill(words []uint32, s string) {
	for i := range words {
		at := wordSize * i
		words[i] = uint32(s[at]) | uint32(s[at+1])<<8 | uint32(s[at+2])<<16 | uint32(s[at+3])<<24
	}
}

// stirred is the words behind all rounds, with what each was at first added.
func (w *block) stirred() block {
	x := *w
	for range rounds {
		x[0], x[4], x[8], x[12] = quarter(x[0], x[4], x[8], x[12])
		x[1], x[5], x[9], x[13] = quarter(x[1], x[5], x[9], x[13])
		x[2], x[6], x[10], x[14] = quarter(x[2], x[6], x[10], x[14])
		x[3], x[7], x[11], x[15] = quarter(x[3], x[7], x[11], x[15])
		x[0], x[5], x[10], x[15] = quarter(x[0], x[5], x[10], x[15])
		x[1], x[6], x[11], x[12] = quarter(x[1], x[6], x[11], x[12])
		x[2], x[7], x[8], x[13] = quarter(x[2], x[7], x[8], x[13])
		x[3], x[4], x[9], x[14] = quarter(x[3], x[4], x[9], x[14])
	}
	for i := range x {
		x[i] += w[i]
	}
	return x
}

// quarter is the quarter round.
func quarter(a, b, c, d uint32) (uint32, uint32, uint32, uint32) {
	a += b
	d = bits.RotateLeft32(d^a, 16)
	c += d
	b = bits.RotateLeft32(b^c, 12)
	a += b
	d = bits.RotateLeft32(d^a, 8)
	c += d
	b = bits.RotateLeft32(b^c, 7)
	return a, b, c, d
}

// xorInto turns p, a block or a part of one, by the words' bytes, the lowest first.
func (w *block) xorInto(p []byte) {
	whole := len(p) / wordSize
	for i, word := range w[:whole] {
		q := p[wordSize*i : wordSize*i+wordSize]
		q[0] ^= byte(word)
		q[1] ^= byte(word >> 8)
		q[2] ^= byte(word >> 16)
		q[3] ^= byte(word >> 24)
	}
	left := p[wordSize*whole:]
	switch len(left) {
	case 3:
		left[2] ^= byte(w[whole] >> 16)
		fallthrough
	case 2:
		left[1] ^= byte(w[whole] >> 8)
		fallthrough
	case 1:
		left[0] ^= byte(w[whole])
	}
}
