package journal

import (
	"bytes"
	"strings"

	"flagstone/api"
	"flagstone/octets"
)

// flaw is what a panic bears where octets are no record.
type flaw api.Errno

// must breaks off where octets are not as a record's are.
func must(holds bool, err api.Errno) {
	if !holds {
		panic(flaw(err))
	}
}

// cursor reads octets one behind the other; where they end it breaks off.
type cursor struct {
	b  []byte
	at int
}

// whole is the record that stands at the beginning, or its first flaw.
func (c *cursor) whole() (r Record, err api.Errno) {
	defer func() {
		if why := recover(); why != nil {
			// What is no flaw panics on: to answer as if it were one would
			// hide it.
			err = api.Errno(why.(flaw))
		}
	}()
	c.begin()
	r = c.record()
	c.end()
	// So that one place alone says which octets a record has.
	again, err := Encode(r)
	must(err == api.OK && bytes.Equal(again, c.b[:c.at]), api.ErrCorrupt)
	return r, api.OK
}

// begin passes the mark. Another octet there counts ahead of an end.
func (c *cursor) begin() {
	there := c.b[:min(len(c.b), len(mark))]
	must(strings.HasPrefix(mark, string(there)), api.ErrCorrupt)
	c.at = len(mark)
}

// end passes the sum, and what is behind it up to whole sectors.
func (c *cursor) end() {
	size := wholeSectors(c.at + sumSize)
	must(size <= len(c.b), api.ErrShort)
	c.at = size
}

// record may be one that may not be: a number above an int's is then one
// below 0, which Check refuses too.
func (c *cursor) record() Record {
	r := Record{}
	r.Seq = c.number(seqSize)
	r.Root = c.number(rootSize)
	r.Room = c.number(roomSize)
	count := c.number(countSize)
	must(count <= api.MaxRecord, api.ErrCorrupt)
	for range count {
		r.Pages = append(r.Pages, c.page())
	}
	return r
}

func (c *cursor) page() api.Page {
	p := api.Page{Number: c.number(numberSize)}
	full := c.number(fullSize)
	must(full <= 1, api.ErrCorrupt)
	if full == 1 {
		p.Data = c.sector()
	}
	return p
}

func (c *cursor) number(size int) int {
	n, err := octets.Get(c.b, c.at, size)
	must(err == api.OK, api.ErrShort)
	c.at += size
	return int(n)
}

// sector is new memory, for an answer shares none with what is handed in.
func (c *cursor) sector() []byte {
	must(len(c.b)-c.at >= api.Sector, api.ErrShort)
	from := c.at
	c.at += api.Sector
	return bytes.Clone(c.b[from:c.at])
}
