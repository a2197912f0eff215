package crc_test

import (
	"bytes"
	"encoding/binary"
	"testing"

	"flagstone/api"
	"flagstone/crc"
)

func wantOpen(t *testing.T, promise string, b, want []byte, wantErr api.Errno) {
	t.Helper()
	got, err := crc.Open(b)
	if err != wantErr || !bytes.Equal(got, want) {
		t.Errorf("%s: Open(% x): % x, %d; want % x, %d", promise, b, got, err, want, wantErr)
	}
}

// P2.1, P5: the octets, and their sum, its lowest octet first.
func TestSealTellsTheLowestOctetOfTheSumFirst(t *testing.T) {
	if got := crc.Seal([]byte("123456789")); string(got) != "123456789\x83\x92\x06\xe3" {
		t.Errorf("P2.1: Seal: % x", got)
	}
	for _, length := range append(lengths(140), 1<<16) {
		b := mixed(length, 9)
		want := binary.LittleEndian.AppendUint32(bytes.Clone(b), crc.Sum(b))
		if got := crc.Seal(b); !bytes.Equal(got, want) {
			t.Errorf("P2.1: Seal of %d octets: % x; want % x", length, got, want)
		}
	}
}

// P2.1, P1: nil and empty octets are one; their sum is 0.
func TestSealOfNothing(t *testing.T) {
	for _, b := range [][]byte{nil, {}} {
		if got := crc.Seal(b); string(got) != "\x00\x00\x00\x00" {
			t.Errorf("P2.1: Seal(%v): % x", b, got)
		}
	}
}

// P2.3.
func TestOpenOfSeal(t *testing.T) {
	for _, length := range append(lengths(140), 1<<16) {
		for _, b := range [][]byte{make([]byte, length), bytes.Repeat([]byte{255}, length), mixed(length, 5)} {
			wantOpen(t, "P2.3", crc.Seal(b), b, api.OK)
		}
	}
	wantOpen(t, "P2.3", crc.Seal(nil), nil, api.OK)
	sealed := crc.Seal([]byte("flag"))
	wantOpen(t, "P2.3", crc.Seal(sealed), sealed, api.OK)
}

// P2.1, P1, P4: fewer than four octets, whatever they are.
func TestOpenOfTooFew(t *testing.T) {
	wantOpen(t, "P2.1", nil, nil, api.ErrShort)
	for length := range 4 {
		for _, b := range [][]byte{make([]byte, length), bytes.Repeat([]byte{255}, length), mixed(length, 1)} {
			wantOpen(t, "P2.1", b, nil, api.ErrShort)
		}
	}
	// What stands in the list's memory behind its end is not read.
	wantOpen(t, "P2.1", make([]byte, 4)[:3], nil, api.ErrShort)
}

// P2.1: four octets are the sum of none; five are one octet and its sum.
func TestOpenOfFourAndFive(t *testing.T) {
	wantOpen(t, "P2.1", make([]byte, 4), nil, api.OK)
	wantOpen(t, "P2.1", []byte{0, 0, 0, 1}, nil, api.ErrCorrupt)
	wantOpen(t, "P2.1", []byte{1, 0, 0, 0}, nil, api.ErrCorrupt)
	wantOpen(t, "P2.1", []byte{255, 255, 255, 255}, nil, api.ErrCorrupt)
	wantOpen(t, "P2.1", []byte{'a', 0x30, 0x43, 0xd0, 0xc1}, []byte("a"), api.OK)
	wantOpen(t, "P2.1", []byte{'b', 0x30, 0x43, 0xd0, 0xc1}, nil, api.ErrCorrupt)
	wantOpen(t, "P2.1", make([]byte, 5), nil, api.ErrCorrupt)
}

// P2.1, P5: a sum with its highest octet first is none, nor one that stands ahead.
func TestOpenOfASumThatStandsWrong(t *testing.T) {
	b := []byte("123456789")
	wantOpen(t, "P2.1", binary.BigEndian.AppendUint32(bytes.Clone(b), crc.Sum(b)), nil, api.ErrCorrupt)
	wantOpen(t, "P2.1", append([]byte{0x83, 0x92, 0x06, 0xe3}, b...), nil, api.ErrCorrupt)
	wantOpen(t, "P2.1", binary.LittleEndian.AppendUint32(bytes.Clone(b), ^crc.Sum(b)), nil, api.ErrCorrupt)
}

// P2.1: sealed octets that are cut off, ahead or behind, or with one more.
func TestOpenOfCutOff(t *testing.T) {
	for length := range 140 {
		sealed := crc.Seal(mixed(length, 11))
		cutErr := api.ErrCorrupt
		if length == 0 {
			cutErr = api.ErrShort
		}
		wantOpen(t, "P2.1", sealed[:len(sealed)-1], nil, cutErr)
		wantOpen(t, "P2.1", sealed[1:], nil, cutErr)
		for _, more := range []byte{0, 1, 255, sealed[len(sealed)-1]} {
			wantOpen(t, "P2.1", append(bytes.Clone(sealed), more), nil, api.ErrCorrupt)
			wantOpen(t, "P2.1", append([]byte{more}, sealed...), nil, api.ErrCorrupt)
		}
	}
}
