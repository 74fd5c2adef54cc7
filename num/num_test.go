package num

import (
	"math"
	"math/big"
	"math/rand"
	"strings"
	"testing"

	"tollhouse/api"
	"tollhouse/sample"
)

// base is one of the two, with its calls and its digits as the chapter names them.
type base struct {
	name    string
	by      int
	reads   string // digits that are read
	written string // digits that are written, by their worth
	read    func(string) (uint64, api.Errno)
	write   func(uint64) (string, api.Errno)
	most    string // the text of Most
	over    string // the text of Most + 1
}

var bases = []base{
	{"decimal", 10, "0123456789", "0123456789", Decimal, Text, "9007199254740991", "9007199254740992"},
	{"hex", 16, "0123456789abcdefABCDEF", "0123456789abcdef", Hex, HexText, "1fffffffffffff", "20000000000000"},
}

// model says what the chapter says, with numbers that have no end.
func (b base) model(s string) (uint64, api.Errno) {
	n := new(big.Int)
	for i := range len(s) {
		at := strings.IndexByte(b.reads, s[i])
		if at < 0 {
			return 0, api.ErrForm
		}
		if at >= 16 { // the capital letters stand behind the small ones
			at -= 6
		}
		n.Mul(n, big.NewInt(int64(b.by)))
		n.Add(n, big.NewInt(int64(at)))
	}
	if s == "" {
		return 0, api.ErrForm
	}
	if n.Cmp(big.NewInt(9007199254740991)) > 0 {
		return 0, api.ErrLong
	}
	return n.Uint64(), api.OK
}

// bare is a text of digits without the noughts ahead, and with small letters.
func bare(s string) string {
	s = strings.ToLower(strings.TrimLeft(s, "0"))
	if s == "" {
		return "0"
	}
	return s
}

// says checks an answer against the chapter's, and that what is read, written, is the bare text.
func (b base) says(t *testing.T, s string, want uint64, err api.Errno) {
	t.Helper()
	n, e := b.read(s)
	if n != want || e != err {
		t.Errorf("%s of %.60q (%d bytes): %d, %d; want %d, %d", b.name, s, len(s), n, e, want, err)
	}
	if e != api.OK {
		return
	}
	if back, e := b.write(n); e != api.OK || back != bare(s) {
		t.Errorf("%s of %.60q, written: %q, %d", b.name, s, back, e)
	}
}

func (b base) asModel(t *testing.T, s string) {
	t.Helper()
	n, e := b.model(s)
	b.says(t, s, n, e)
}

// writes checks a number's text, and that it is read as the number.
func (b base) writes(t *testing.T, n uint64) {
	t.Helper()
	s, e := b.write(n)
	if want := new(big.Int).SetUint64(n).Text(b.by); e != api.OK || s != want {
		t.Errorf("%s text of %d: %q, %d; want %q", b.name, n, s, e, want)
	}
	if back, e := b.read(s); e != api.OK || back != n {
		t.Errorf("%s of %q: %d, %d; want %d", b.name, s, back, e, n)
	}
}

// near is what stands about the numbers at which something may go wrong: the powers of both bases, and those of 2.
func near() []uint64 {
	var l []uint64
	for _, by := range []uint64{2, 10, 16} {
		for n := uint64(1); n < 1<<59; n *= by {
			for d := range uint64(7) {
				l = append(l, max(n+d, 3)-3)
			}
		}
	}
	return l
}

// P3.1, P3.2: the chapter's examples.
func TestExamples(t *testing.T) {
	bases[0].says(t, "0042", 42, api.OK)
	bases[0].says(t, "", 0, api.ErrForm)
	bases[0].says(t, "+1", 0, api.ErrForm)
	bases[0].says(t, "9007199254740992", 0, api.ErrLong)
	bases[1].says(t, "fF", 255, api.OK)
	bases[1].says(t, "g", 0, api.ErrForm)
	if s, e := HexText(255); s != "ff" || e != api.OK {
		t.Error(s, e)
	}
	if s, e := Text(0); s != "0" || e != api.OK {
		t.Error(s, e)
	}
	if Most != 9007199254740991 {
		t.Error(uint64(Most))
	}
}

// P3.1: ordinary texts of both bases.
func TestRead(t *testing.T) {
	for s, n := range map[string]uint64{"0": 0, "1": 1, "9": 9, "10": 10, "007": 7, "1234567890": 1234567890, "4503599627370496": 1 << 52} {
		bases[0].says(t, s, n, api.OK)
	}
	for s, n := range map[string]uint64{"0": 0, "9": 9, "a": 10, "A": 10, "f": 15, "F": 15, "10": 16, "00fF": 255, "dead": 0xdead, "DeadBeef": 0xdeadbeef, "1FFFFFFFFFFFFF": Most} {
		bases[1].says(t, s, n, api.OK)
	}
}

// P3.1: each byte, alone, first, last, within, and behind what says too much.
func TestEachByte(t *testing.T) {
	for _, b := range bases {
		for c := range 256 {
			one := string([]byte{byte(c)})
			for _, s := range []string{one, one + "1", "1" + one, "1" + one + "1", one + one, b.over + one, one + b.over, strings.Repeat("9", 100) + one} {
				b.asModel(t, s)
			}
		}
	}
}

// P3.1: what is no digit here, though elsewhere it may stand by a number, or be a digit.
func TestWrongTexts(t *testing.T) {
	for _, b := range bases {
		for _, s := range []string{
			" ", " 1", "1 ", "1 1", "\t1", "1\r\n", "1\n", "\x001", "1\x00", "+", "-", "+1", "-1", "-0", "1-", "1.0", ".", "1,000", "1_000", "0x1", "0X1", "#1", "1h",
			"\"1\"", "1;", "1/", "1:", "@", "`", "G", "g", "z", "é", "１", "1１", "٣", "\u0967", "\x80", "\xff", "1\xff", "\xb1", "\xc4\xb1", "�", "\U00010030", "Inf", "NaN", "0o7",
		} {
			b.says(t, s, 0, api.ErrForm)
		}
	}
	for _, s := range []string{"a", "F", "1a", "a1", "1e3", "1E3", "ff", "0f", "0b1"} {
		bases[0].says(t, s, 0, api.ErrForm)
	}
	bases[1].says(t, "1e3", 0x1e3, api.OK)
}

// P3.1, R5: a byte that is no digit is told ahead of too much, wherever it stands.
func TestFormAheadOfLong(t *testing.T) {
	for _, b := range bases {
		for _, long := range []string{b.over, strings.Repeat("9", 40), "1" + strings.Repeat("0", 1000)} {
			b.says(t, long, 0, api.ErrLong)
			for _, s := range []string{long + "g", "g" + long, long + " ", " " + long, "-" + long, long + "g" + long, long + "\xff"} {
				b.says(t, s, 0, api.ErrForm)
			}
		}
	}
}

// P3.1: Most, one more, and noughts ahead of both, as many as there are.
func TestMost(t *testing.T) {
	for _, b := range bases {
		for _, noughts := range []int{0, 1, 2, 19, 64, 1000, 1 << 17} {
			ahead := strings.Repeat("0", noughts)
			b.says(t, ahead+b.most, Most, api.OK)
			b.says(t, ahead+strings.ToUpper(b.most), Most, api.OK)
			b.says(t, ahead+b.over, 0, api.ErrLong)
			b.says(t, ahead+"0", 0, api.OK)
			b.says(t, ahead+"7", 7, api.OK)
			b.says(t, ahead+b.most+"0", 0, api.ErrLong)
		}
	}
}

// P3.1, P3.3: all short texts of digits, and of what is none.
func TestShortTexts(t *testing.T) {
	sample.Texts([]string{"0", "1", "9", "a", "F", "g", "-", " ", "\xff"}, 5, func(s string) {
		for _, b := range bases {
			b.asModel(t, s)
		}
	})
}

// P3.2: what may be written, and what may not.
func TestWrite(t *testing.T) {
	for _, b := range bases {
		for worth, digit := range b.written {
			if s, e := b.write(uint64(worth)); s != string(digit) || e != api.OK {
				t.Errorf("%s text of %d: %q, %d", b.name, worth, s, e)
			}
		}
		for _, x := range []struct {
			n uint64
			s string
			e api.Errno
		}{{Most, b.most, api.OK}, {Most + 1, "", api.ErrArg}, {Most + 2, "", api.ErrArg}, {1 << 63, "", api.ErrArg}, {math.MaxUint64, "", api.ErrArg}} {
			if s, e := b.write(x.n); s != x.s || e != x.e {
				t.Errorf("%s text of %d: %q, %d", b.name, x.n, s, e)
			}
		}
	}
	if s, e := HexText(0xabcdef); s != "abcdef" || e != api.OK {
		t.Error(s, e)
	}
	if s, e := Text(1234567890); s != "1234567890" || e != api.OK {
		t.Error(s, e)
	}
}

// P3.3: there and back, of small numbers, of those about the powers, and of many others.
func TestBack(t *testing.T) {
	some := rand.New(rand.NewSource(3))
	for _, b := range bases {
		for n := range uint64(5000) {
			b.writes(t, n)
			b.writes(t, Most-n)
			b.writes(t, some.Uint64()>>11>>(n%53))
		}
		for _, n := range near() {
			if n <= Most {
				b.writes(t, n)
			} else if s, e := b.write(n); s != "" || e != api.ErrArg {
				t.Errorf("%s text of %d: %q, %d", b.name, n, s, e)
			}
		}
	}
}

// P3.4: numbers that are small again where 32, 53, 63, 64 or more bits are counted alone.
func TestNothingGoesRound(t *testing.T) {
	for _, b := range bases {
		for _, bits := range []uint{31, 32, 52, 53, 54, 56, 57, 60, 63, 64, 65, 68, 96, 128, 192, 256, 1024} {
			for _, times := range []int64{1, 2, 3, 10, 16} {
				for _, more := range []int64{-16, -1, 0, 1, 7, 255} {
					n := new(big.Int).Lsh(big.NewInt(times), bits)
					s := n.Add(n, big.NewInt(more)).Text(b.by)
					b.asModel(t, s)
					b.asModel(t, "000"+strings.ToUpper(s))
				}
			}
		}
		for _, n := range near() {
			b.asModel(t, new(big.Int).SetUint64(n).Text(b.by))
		}
	}
}

// P3.4: texts of any length; none of their beginnings that say too much is ever forgotten.
func TestLong(t *testing.T) {
	for _, b := range bases {
		for length := range 200 {
			for _, digit := range b.reads {
				b.asModel(t, strings.Repeat(string(digit), length))
				b.asModel(t, string(digit)+strings.Repeat("0", length))
			}
		}
		for _, length := range []int{1 << 17, 1<<20 + 1} {
			b.says(t, "1"+strings.Repeat("0", length), 0, api.ErrLong)
			b.says(t, strings.Repeat("9", length), 0, api.ErrLong)
			b.says(t, strings.Repeat("0", length), 0, api.OK)
			b.says(t, strings.Repeat("0", length)+"12", uint64(b.by)+2, api.OK)
			b.says(t, strings.Repeat("0", length)+"g", 0, api.ErrForm)
			b.says(t, strings.Repeat("9", length)+"g", 0, api.ErrForm)
		}
	}
}
