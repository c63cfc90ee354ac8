package journal

import (
	"bytes"

	"ostiary/api"
	"ostiary/block"
)

// How many heads a device has, and how many blocks there are at least, if it has banks.
const (
	heads       = 2
	leastBlocks = 4
)

// bank is blocks of a device, numbered from its first one on.
type bank struct {
	d        *block.Device
	first, n int
}

// bankOf: where the records of a generation are.
func bankOf(d *block.Device, gen uint32) bank {
	n := (d.Len() - heads) / 2
	return bank{d, heads + n*int(gen%2), n}
}

// headOf: the block that tells of a generation.
func headOf(gen uint32) int { return int(gen % 2) }

// generation: the greatest one that a head tells.
func generation(d *block.Device) uint32 {
	var most uint32
	for i := range heads {
		b, _ := d.Read(i)
		if gen, ok := readHead(b); ok && headOf(gen) == i {
			most = max(most, gen)
		}
	}
	return most
}

// read: all of it. No block is missing: whoever reads has asked whether the power is on.
func (k bank) read() []byte {
	var all []byte
	for i := range k.n {
		b, _ := k.d.Read(k.first + i)
		all = append(all, b...)
	}
	return all
}

// write puts bytes into as many blocks as they take.
func (k bank) write(at int, b []byte) api.Errno {
	for len(b) > 0 {
		n := min(len(b), block.Size)
		if e := k.d.Write(k.first+at, b[:n]); e != api.OK {
			return e
		}
		b = b[n:]
		at++
	}
	return api.OK
}

// wipe makes noughts of all blocks from one on.
func (k bank) wipe(from int) api.Errno {
	var noughts [block.Size]byte
	wiped := false
	for i := k.first + from; i < k.first+k.n; i++ {
		b, e := k.d.Read(i)
		if e == api.OK && bytes.Equal(b, noughts[:]) {
			continue
		}
		if e := k.d.Write(i, nil); e != api.OK {
			return e
		}
		wiped = true
	}
	if wiped {
		return k.d.Sync()
	}
	return api.OK
}
