package hash

import (
	"math/bits"

	"holdfast/api"
)

const (
	blockBytes = 64
	wordBytes  = 4
	rounds     = 64

	// What stands behind the bytes that are hashed: this byte, noughts, and in eight bytes how many bits there were.
	endMark   = 0x80
	sizeBytes = 8
)

// roundWords are the first 32 bits behind the point of the cube roots of the first 64 primes.
var roundWords = [rounds]uint32{
	0x428a2f98, 0x71374491, 0xb5c0fbcf, 0xe9b5dba5, 0x3956c25b, 0x59f111f1, 0x923f82a4, 0xab1c5ed5,
	0xd807aa98, 0x12835b01, 0x243185be, 0x550c7dc3, 0x72be5d74, 0x80deb1fe, 0x9bdc06a7, 0xc19bf174,
	0xe49b69c1, 0xefbe4786, 0x0fc19dc6, 0x240ca1cc, 0x2de92c6f, 0x4a7484aa, 0x5cb0a9dc, 0x76f988da,
	0x983e5152, 0xa831c66d, 0xb00327c8, 0xbf597fc7, 0xc6e00bf3, 0xd5a79147, 0x06ca6351, 0x14292967,
	0x27b70a85, 0x2e1b2138, 0x4d2c6dfc, 0x53380d13, 0x650a7354, 0x766a0abb, 0x81c2c92e, 0x92722c85,
	0xa2bfe8a1, 0xa81a664b, 0xc24b8b70, 0xc76c51a3, 0xd192e819, 0xd6990624, 0xf40e3585, 0x106aa070,
	0x19a4c116, 0x1e376c08, 0x2748774c, 0x34b0bcb5, 0x391c0cb3, 0x4ed8aa4a, 0x5b9cca4f, 0x682e6ff3,
	0x748f82ee, 0x78a5636f, 0x84c87814, 0x8cc70208, 0x90befffa, 0xa4506ceb, 0xbef9a3f7, 0xc67178f2,
}

// state is what the whole blocks so far have come to.
type state [8]uint32

// running is a hash that may go on with more bytes. It is a value: to go on copies it, so that several may go on from one.
type running struct {
	state state
	block [blockBytes]byte // begins with the bytes behind the last whole block
	size  int              // bytes so far, in all
}

// start has the first 32 bits behind the point of the square roots of the first eight primes.
func start() running {
	return running{state: state{0x6a09e667, 0xbb67ae85, 0x3c6ef372, 0xa54ff53a, 0x510e527f, 0x9b05688c, 0x1f83d9ab, 0x5be0cd19}}
}

func (r running) with(b []byte) running {
	filled := r.size % blockBytes
	r.size += len(b)
	for filled+len(b) >= blockBytes {
		taken := copy(r.block[filled:], b)
		r.state = r.state.with(r.block)
		b = b[taken:]
		filled = 0
	}
	copy(r.block[filled:], b)
	return r
}

func (r running) sum() api.Hash {
	ended := r.with(r.end())
	var h api.Hash
	for i, word := range ended.state {
		for j := range wordBytes {
			h[wordBytes*i+j] = byte(word >> (24 - 8*j))
		}
	}
	return h
}

// end is the bytes by which those so far come to whole blocks.
func (r running) end() []byte {
	over := (r.size + 1 + sizeBytes) % blockBytes
	noughts := (blockBytes - over) % blockBytes
	end := make([]byte, 1+noughts, 1+noughts+sizeBytes)
	end[0] = endMark
	for shift := 56; shift >= 0; shift -= 8 {
		end = append(end, byte(uint64(r.size)*8>>shift))
	}
	return end
}

func (s state) with(block [blockBytes]byte) state {
	words := spread(block)
	mixed := s
	for i, word := range words {
		mixed = mixed.round(word + roundWords[i])
	}
	for i, word := range mixed {
		s[i] += word
	}
	return s
}

// round is one of FIPS 180-4, 6.2.2, with its names a to h: e and what stands ahead of it are new, all others move on by one.
func (s state) round(word uint32) state {
	a, b, c, d, e, f, g, h := s[0], s[1], s[2], s[3], s[4], s[5], s[6], s[7]
	chosen := e&f ^ ^e&g
	most := a&b ^ a&c ^ b&c
	first := h + (turned(e, 6) ^ turned(e, 11) ^ turned(e, 25)) + chosen + word
	second := (turned(a, 2) ^ turned(a, 13) ^ turned(a, 22)) + most
	return state{first + second, a, b, c, d + first, e, f, g}
}

// spread is the words of a block, and behind them those made of them, one for each round.
func spread(block [blockBytes]byte) [rounds]uint32 {
	var words [rounds]uint32
	for i, b := range block {
		words[i/wordBytes] = words[i/wordBytes]<<8 | uint32(b)
	}
	for i := blockBytes / wordBytes; i < rounds; i++ {
		near, far := words[i-2], words[i-15]
		nearMix := turned(near, 17) ^ turned(near, 19) ^ near>>10
		farMix := turned(far, 7) ^ turned(far, 18) ^ far>>3
		words[i] = nearMix + words[i-7] + farMix + words[i-16]
	}
	return words
}

// turned is a word turned to the right.
func turned(word uint32, by int) uint32 {
	return bits.RotateLeft32(word, -by)
}
