// Package parts lays texts in a disk's sectors: a text is cut into parts, each of which has a sector. The layers 9, 10 and 17 stand on it; what a part's sector is closed of stands in shared/doc/09-kept.md and shared/doc/10-log.md, which differ but in how many numbers it begins with.
package parts

import (
	"slices"
	"strings"

	"twinlock/api"
	"twinlock/disk"
)

// A part's sector is closed of a body; it begins with numbers, which all parts of one text share.
const (
	bodySize = 60
	numSize  = 8
)

// Behind the numbers a body has the part's own number, how many parts there are, how many bytes this one has, a nought, and the part; here is where they stand.
const (
	countAt  = 1
	lengthAt = 2
	partAt   = 4
)

// spoilt is what disk.Look tells of a sector that is.
const spoilt = 2

// size is how many bytes a part has at most behind so many numbers.
func size(nums int) int { return bodySize - nums*numSize - partAt }

// Count is how many parts a text has, if so many numbers stand ahead of each.
func Count(text string, nums int) int {
	n := size(nums)
	return max(1, (len(text)+n-1)/n)
}

// head is numbers as bytes.
func head(nums []uint64) []byte {
	var b []byte
	for _, n := range nums {
		for i := range numSize {
			b = append(b, byte(n>>(8*i)))
		}
	}
	return b
}

// body is what the sector of the i-th part is closed of.
func body(head []byte, i, count int, part string) string {
	b := append(slices.Clone(head), byte(i), byte(count), byte(len(part)), 0)
	b = append(b, part...)
	return string(append(b, make([]byte, bodySize-len(b))...))
}

// Bodies are what the sectors of a text's parts are closed of, each behind these numbers. A text of more than 255 parts has none that tell them apart.
func Bodies(text string, nums ...uint64) []string {
	first, n, count := head(nums), size(len(nums)), Count(text, len(nums))
	var l []string
	for i := range count {
		l = append(l, body(first, i, count, text[i*n:min((i+1)*n, len(text))]))
	}
	return l
}

// Number is the k-th number that a body begins with, or 0, if there is no body.
func Number(body string, k int) uint64 {
	if body == "" {
		return 0
	}
	n := uint64(0)
	for i := range numSize {
		n |= uint64(body[k*numSize+i]) << (8 * i)
	}
	return n
}

// Greatest is the greatest of all bodies' k-th numbers.
func Greatest(bodies []string, k int) uint64 {
	n := uint64(0)
	for _, b := range bodies {
		n = max(n, Number(b, k))
	}
	return n
}

// joined is what the parts in the first bodies come to, as the first one counts them; they need not be a text's.
func joined(bodies []string, nums int) string {
	var b strings.Builder
	at := nums * numSize
	for i := range min(int(bodies[0][at+countAt]), len(bodies)) {
		if bodies[i] == "" {
			return ""
		}
		tail := bodies[i][at:]
		length := min(int(tail[lengthAt]), size(nums))
		b.WriteString(tail[partAt : partAt+length])
	}
	return b.String()
}

// Text is the text of at most so many bytes whose parts' bodies are the first ones of these, if there is one: what they come to, if that makes these very bodies again.
func Text(bodies []string, nums, most int) (string, bool) {
	if len(bodies) == 0 || bodies[0] == "" {
		return "", false
	}
	text := joined(bodies, nums)
	if len(text) > most {
		return "", false
	}
	var first []uint64
	for k := range nums {
		first = append(first, Number(bodies[0], k))
	}
	l := Bodies(text, first...)
	if !slices.Equal(l, bodies[:len(l)]) {
		return "", false
	}
	return text, true
}

// Read is the bodies of so many sectors from one on, and no text for a blank one; a spoilt one bars them all.
func Read(d *disk.Disk, from, sectors int) ([]string, api.Errno) {
	var l []string
	for i := range sectors {
		s, e := d.Read(from + i)
		if e != api.OK {
			return nil, e
		}
		b, state := disk.Look(s)
		if state == spoilt {
			return nil, api.ErrSum
		}
		l = append(l, b)
	}
	return l, api.OK
}

// Write closes bodies, writes them from a sector on, and syncs the disk.
func Write(d *disk.Disk, from int, bodies []string) api.Errno {
	for i, b := range bodies {
		s, e := disk.Close(b)
		if e != api.OK {
			return e
		}
		if e := d.Write(from+i, s); e != api.OK {
			return e
		}
	}
	return d.Sync()
}
