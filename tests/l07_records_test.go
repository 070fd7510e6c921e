package tests

import (
	"encoding/binary"
	"fmt"
	"math"
	"slices"
	"strings"
	"testing"

	"loop.example/g01339/impl"
)

func recordOf(name string, s impl.Seed, draws ...int64) impl.Record {
	return impl.Record{Name: name, Seed: s, Draws: draws}
}

func isRecord(r impl.Record) bool {
	if len(r.Name) < 1 || len(r.Name) > 8 || strings.Trim(r.Name, "abcdefghijklmnopqrstuvwxyz") != "" || len(r.Draws) > 256 {
		return false
	}
	if slices.ContainsFunc(r.Draws, func(n int64) bool { return n < 0 || n > 65535 }) {
		return false
	}
	return r.Seed.Kind >= 0 && r.Seed.Kind <= 3 && isSeed(r.Seed.Kind, r.Seed.A, r.Seed.B)
}

// checkReference reckons the check number of a text in integers of any size that it needs.
func checkReference(s string) uint16 {
	check := 0
	for _, b := range []byte(s) {
		check = (883*check + int(b) + 167) % 65003
	}
	return uint16(check)
}

func withCheck(s string) string {
	return string(binary.LittleEndian.AppendUint16([]byte(s), checkReference(s)))
}

// storeReference stores any record, one that is not valid too.
func storeReference(r impl.Record) string {
	list := append([]byte("REC1"), byte(len(r.Name)))
	list = append(append(list, r.Name...), byte(r.Seed.Kind))
	list = binary.LittleEndian.AppendUint64(list, r.Seed.A)
	list = binary.LittleEndian.AppendUint64(list, r.Seed.B)
	list = binary.LittleEndian.AppendUint16(list, uint16(len(r.Draws)))
	for _, n := range r.Draws {
		list = binary.LittleEndian.AppendUint16(list, uint16(n))
	}
	return withCheck(string(list))
}

// readReference cuts the record with which a text begins to its parts.
func readReference(s string) (impl.Record, int, bool) {
	whole := s
	part := func(count int) ([]byte, bool) {
		if len(s) < count {
			return nil, false
		}
		list := []byte(s[:count])
		s = s[count:]
		return list, true
	}
	mark, _ := part(4)
	length, ok := part(1)
	if !ok || string(mark) != "REC1" {
		return impl.Record{}, 0, false
	}
	name, _ := part(int(length[0]))
	seed, ok := part(17)
	if !ok {
		return impl.Record{}, 0, false
	}
	count, ok := part(2)
	if !ok {
		return impl.Record{}, 0, false
	}
	list, _ := part(2 * int(binary.LittleEndian.Uint16(count)))
	size := len(whole) - len(s)
	check, ok := part(2)
	if !ok || binary.LittleEndian.Uint16(check) != checkReference(whole[:size]) {
		return impl.Record{}, 0, false
	}
	r := recordOf(string(name), impl.Seed{Kind: int64(seed[0]), A: binary.LittleEndian.Uint64(seed[1:]), B: binary.LittleEndian.Uint64(seed[9:])})
	for i := 0; i < len(list); i += 2 {
		r.Draws = append(r.Draws, int64(list[i])+256*int64(list[i+1]))
	}
	// A part that the text is too short for is empty, which would not show otherwise.
	return r, size + 2, isRecord(r) && storeReference(r) == whole[:size+2]
}

func drawsOf(d *drawnBits, count int) []int64 {
	list := []int64{}
	for range count {
		list = append(list, int64(d.next()>>16))
	}
	return list
}

func goodRecords() []impl.Record {
	s := impl.Seed{Kind: impl.SeedLine, B: 1}
	list := []impl.Record{
		recordOf("a", s), recordOf("z", s, 7), recordOf("abcdefgh", s, 0, 65535), recordOf("zzzzzzzz", s, 256, 255, 1), recordOf("rec", s, repeated[int64](65535, 256)...), recordOf("rec", s, repeated[int64](0, 256)...), recordOf("q", s, repeated[int64](258, 255)...),
	}
	d := drawnBits(166)
	for i, seed := range append(drawnSeeds(40), oddSeeds()...) {
		name := strings.Repeat("qwertyuiopasdfghjklzxcvbnm", 2)[i%26:][:i%8+1]
		list = append(list, recordOf(name, seed, drawsOf(&d, []int{0, 1, 2, 5, 17, 256}[i%6])...))
	}
	return list
}

func badRecords() []impl.Record {
	s := impl.Seed{Kind: impl.SeedLine, B: 1}
	list := []impl.Record{
		{}, {Name: "a"}, {Seed: s}, recordOf("", s), recordOf("", s, 1), recordOf("abcdefghi", s), recordOf(strings.Repeat("a", 256), s), recordOf(strings.Repeat("a", 257), s), recordOf(strings.Repeat("ab", 10000), s),
		recordOf("A", s), recordOf("aB", s), recordOf("Ab", s), recordOf("a1", s), recordOf("a ", s), recordOf(" a", s), recordOf("a\x00", s), recordOf("\x00", s), recordOf("\xff", s), recordOf("a\xff", s), recordOf("é", s), recordOf("aé", s), recordOf("`", s), recordOf("{", s), recordOf("a\n", s), recordOf("a-b", s),
		recordOf("a", s, -1), recordOf("a", s, 65536), recordOf("a", s, 0, 65536), recordOf("a", s, 65536, 0), recordOf("a", s, 1, -1, 2), recordOf("a", s, wordsEnd), recordOf("a", s, wordsEnd+1), recordOf("a", s, math.MaxInt64), recordOf("a", s, math.MinInt64), recordOf("a", s, append(repeated[int64](1, 255), 65536)...),
		recordOf("a", s, repeated[int64](1, 257)...), recordOf("a", s, repeated[int64](1, 512)...), recordOf("a", s, repeated[int64](1, 65536)...), recordOf("a", s, repeated[int64](1, 65537)...),
	}
	for _, seed := range badSeeds() {
		list = append(list, recordOf("a", seed), recordOf("abc", seed, 1, 2))
	}
	return list
}

func sameRecord(a, b impl.Record) bool {
	return a.Name == b.Name && a.Seed == b.Seed && slices.Equal(a.Draws, b.Draws)
}

// shortened tells long texts by their beginnings.
func shortened(r impl.Record) string {
	return fmt.Sprintf("%q %v %v %d", r.Name[:min(len(r.Name), 12)], r.Seed, r.Draws[:min(len(r.Draws), 5)], len(r.Draws))
}

func TestRecords(t *testing.T) {
	for _, r := range goodRecords() {
		what := shortened(r)
		wantSame(t, what+" is a record", isRecord(r) && impl.ValidRecord(r), true)
		bytes, ok := impl.StoreRecord(r)
		wantSame(t, "StoreRecord "+what, bytes, storeReference(r))
		wantSame(t, "success", ok, true)
		read, ok := impl.LoadRecord(bytes)
		wantSame(t, "LoadRecord "+what, sameRecord(read, r), true)
		wantSame(t, "success", ok, true)
	}
	for _, r := range badRecords() {
		what := shortened(r)
		wantSame(t, what+" is no record", isRecord(r) || impl.ValidRecord(r), false)
		bytes, ok := impl.StoreRecord(r)
		wantFailure(t, "StoreRecord "+what, bytes, ok)
		// Its bytes, as far as there are any, have the right check number.
		read, ok := impl.LoadRecord(storeReference(r))
		want, size, can := readReference(storeReference(r))
		if !can || size < len(storeReference(r)) {
			want = impl.Record{}
			wantFailure(t, "LoadRecord "+what, read.Name, read.Seed, read.Draws, ok)
		}
		wantSame(t, "what is loaded of "+what, sameRecord(read, want), true)
	}
	bytes, ok := impl.StoreRecord(recordOf("ab", impl.Seed{Kind: impl.SeedShift, A: 0x0807060504030201, B: 0x100f0e0d0c0b0a09}, 0x1211, 0x1413))
	want := "REC1\x02ab\x01\x01\x02\x03\x04\x05\x06\x07\x08\x09\x0a\x0b\x0c\x0d\x0e\x0f\x10\x02\x00\x11\x12\x13\x14"
	wantSame(t, "the bytes of a record", bytes, withCheck(want))
	wantSame(t, "success", ok, true)
	check, _ := impl.CheckOf(0, want)
	wantSame(t, "its check number", bytes[len(want):], string([]byte{byte(check % 256), byte(check / 256)}))
}

func TestSameRecords(t *testing.T) {
	records := append(goodRecords()[:60], badRecords()...)
	for i, a := range records {
		for k, b := range records {
			same := sameRecord(a, b)
			wantSame(t, fmt.Sprint("SameRecords ", i, k), impl.SameRecords([]impl.Record{a}, []impl.Record{b}), same)
			wantSame(t, fmt.Sprint("SameRecords behind one ", i, k), impl.SameRecords([]impl.Record{a, a}, []impl.Record{a, b}), same)
			wantSame(t, fmt.Sprint("SameRecords before one ", i, k), impl.SameRecords([]impl.Record{a, b}, []impl.Record{b, b}), same)
		}
		wantSame(t, "one and none", impl.SameRecords([]impl.Record{a}, nil) || impl.SameRecords(nil, []impl.Record{a}), false)
		wantSame(t, "one and two", impl.SameRecords([]impl.Record{a}, []impl.Record{a, a}) || impl.SameRecords([]impl.Record{a, a}, []impl.Record{a}), false)
	}
	wantSame(t, "none and none", impl.SameRecords(nil, []impl.Record{}), true)
	wantSame(t, "no Draws", impl.SameRecords([]impl.Record{{Name: "a"}}, []impl.Record{{Name: "a", Draws: []int64{}}}), true)
	r := recordOf("a", impl.Seed{Kind: 1, A: 2, B: 3}, 4, 5)
	for _, other := range []impl.Record{recordOf("b", r.Seed, 4, 5), recordOf("a", impl.Seed{Kind: 0, A: 2, B: 3}, 4, 5), recordOf("a", impl.Seed{Kind: 1, A: 1, B: 3}, 4, 5), recordOf("a", impl.Seed{Kind: 1, A: 2, B: 2}, 4, 5), recordOf("a", r.Seed, 4), recordOf("a", r.Seed, 4, 6), recordOf("a", r.Seed, 3, 5), recordOf("a", r.Seed, 4, 5, 0), recordOf("aa", r.Seed, 4, 5)} {
		wantSame(t, fmt.Sprint("SameRecords ", r, other), impl.SameRecords([]impl.Record{r}, []impl.Record{other}), false)
	}
	many := slices.Repeat([]impl.Record{r}, 100)
	wantSame(t, "more than can be stored", impl.SameRecords(many, slices.Clone(many)), true)
}

// wantLoaded compares what is loaded of a text, and how many records it begins with, with the reference.
func wantLoaded(t *testing.T, what, s string) {
	t.Helper()
	list, end := []impl.Record{}, 0
	for len(list) < 8 {
		r, size, ok := readReference(s[end:])
		if !ok {
			break
		}
		list = append(list, r)
		end += size
	}
	got, n, ok := impl.RecoverRecords(s)
	if !ok || n != int64(end) || !slices.EqualFunc(got, list, sameRecord) {
		t.Errorf("RecoverRecords of %s (%q): got %d records of %d bytes, %v, want %d of %d", what, s[:min(len(s), 80)], len(got), n, ok, len(list), end)
	}
	r, ok := impl.LoadRecord(s)
	if len(list) == 1 && end == len(s) {
		wantSame(t, "LoadRecord of "+what, ok && sameRecord(r, list[0]), true)
		return
	}
	if ok || r.Name != "" || r.Seed != (impl.Seed{}) || len(r.Draws) > 0 {
		t.Errorf("LoadRecord of %s (%q): got %v, %v, want none", what, s[:min(len(s), 80)], r, ok)
	}
}

func TestRecordsThatAreCutOrChanged(t *testing.T) {
	good := goodRecords()
	for i, r := range []impl.Record{good[0], good[1], good[2], good[3], good[6], good[9], good[12], good[13], good[14]} {
		s := storeReference(r)
		for cut := range len(s) {
			wantLoaded(t, fmt.Sprint("a record without its last bytes ", i, cut), s[:cut])
			wantLoaded(t, fmt.Sprint("a record without its first bytes ", i, cut), s[cut:])
			wantLoaded(t, fmt.Sprint("a record without a byte ", i, cut), s[:cut]+s[cut+1:])
			wantLoaded(t, fmt.Sprint("a record, and one that is cut ", i, cut), s+s[:cut])
			for step := 1; step < 256; step++ {
				if step > 3 && step < 250 && len(s) > 60 {
					continue
				}
				changed := s[:cut] + string([]byte{s[cut] + byte(step)}) + s[cut+1:]
				_, ok := impl.LoadRecord(changed)
				wantSame(t, fmt.Sprint("LoadRecord with another byte ", i, cut, step), ok, false)
				wantLoaded(t, fmt.Sprint("a record with another byte ", i, cut, step), changed)
				// The check number is right again, so that the other parts must be looked at.
				wantLoaded(t, fmt.Sprint("a record with another byte and its check number ", i, cut, step), withCheck(changed[:len(s)-2]))
			}
		}
		for _, behind := range []string{"x", "\x00", "\xff", "R", "REC1", "REC1\x01", s, s[:len(s)-1], "\n"} {
			_, ok := impl.LoadRecord(s + behind)
			wantSame(t, "LoadRecord of a record with bytes behind it", ok, false)
			wantLoaded(t, fmt.Sprintf("a record with %q behind it", behind), s+behind)
			wantLoaded(t, fmt.Sprintf("a record with %q before it", behind), behind+s)
		}
		wantLoaded(t, "a record with another mark", withCheck("REC2"+s[4:len(s)-2]))
		wantLoaded(t, "a record with a small mark", withCheck("rec1"+s[4:len(s)-2]))
		swapped := []byte(s)
		swapped[len(s)-1], swapped[len(s)-2] = swapped[len(s)-2], swapped[len(s)-1]
		wantLoaded(t, "a record with the greater byte of its check number first", string(swapped))
	}
	for _, s := range []string{"", "R", "REC1", "REC1\x00", strings.Repeat("\x00", 29), strings.Repeat("\xff", 1000), "REC1\xff" + strings.Repeat("a", 300), "REC1\x01a\x00" + strings.Repeat("\x01", 16) + "\xff\xff", strings.Repeat("REC1", 100), strings.Repeat("x", 100000)} {
		wantLoaded(t, "no record", s)
	}
	// More Draws than a record can have, of which all bytes are there.
	for _, count := range []int{256, 257, 258, 65535} {
		wantLoaded(t, fmt.Sprint("a record with Draws ", count), storeReference(recordOf("a", good[0].Seed, repeated[int64](3, count)...)))
	}
}

func TestDrawnBytes(t *testing.T) {
	d := drawnBits(167)
	good := goodRecords()
	for range 3000 {
		s := ""
		for range d.next() % 4 {
			s += storeReference(good[int(d.next())%len(good)])
		}
		list := []byte(s)
		for range d.next() % 3 {
			if len(list) > 0 {
				list[int(d.next())%len(list)] = byte(d.next())
			}
		}
		wantLoaded(t, "drawn bytes", string(list[:len(list)-int(d.next())%(len(list)/8+1)]))
	}
}

func TestStoreRecords(t *testing.T) {
	good := goodRecords()
	for count := range 12 {
		for start := range 30 {
			list := good[start*5:][:count]
			want := ""
			for _, r := range list {
				want += storeReference(r)
			}
			got, ok := impl.StoreRecords(list)
			if count > 8 {
				wantFailure(t, fmt.Sprint("StoreRecords ", count), got, ok)
				// Only the first eight of more are recovered.
				wantLoaded(t, fmt.Sprint("records ", count), want)
				continue
			}
			wantSame(t, fmt.Sprint("StoreRecords ", count), got, want)
			wantSame(t, "success", ok, true)
			read, n, ok := impl.RecoverRecords(got)
			wantSame(t, "they are recovered", ok && impl.SameRecords(read, list) && len(read) == count, true)
			wantSame(t, "all bytes are theirs", n, int64(len(got)))
		}
	}
	for _, bad := range badRecords() {
		for _, list := range [][]impl.Record{{bad}, {good[0], bad}, {bad, good[0]}, {good[0], bad, good[1]}, append(slices.Clone(good[:7]), bad)} {
			got, ok := impl.StoreRecords(list)
			wantFailure(t, "StoreRecords "+shortened(bad), got, ok)
		}
	}
	got, ok := impl.StoreRecords(nil)
	wantSame(t, "StoreRecords of none", got, "")
	wantSame(t, "success", ok, true)
	long := slices.Repeat([]impl.Record{recordOf("abcdefgh", good[0].Seed, repeated[int64](65535, 256)...)}, 8)
	got, ok = impl.StoreRecords(long)
	wantSame(t, "the most bytes of records", len(got), 8*546)
	wantSame(t, "success", ok, true)
	wantLoaded(t, "the longest records", got)
	wantLoaded(t, "the longest records, and one more", got+got[:546])
	got, ok = impl.StoreRecords(slices.Repeat(long, 100))
	wantFailure(t, "StoreRecords of a very long list", got, ok)
}
