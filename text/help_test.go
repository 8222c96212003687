package text_test

import (
	"math/rand"
	"slices"
	"strconv"
	"strings"
	"testing"

	"caisson/api"
	"caisson/text"
)

const (
	keyBytes = "ABCDEFGHIJKLMNOPQRSTUVWXYZabcdefghijklmnopqrstuvwxyz0123456789.-+@_"
	highest  = 16777215
)

// isKey, isVal and number are the document's words, byte by byte.
func isKey(s string) bool {
	for i := range len(s) {
		if strings.IndexByte(keyBytes, s[i]) < 0 {
			return false
		}
	}
	return len(s) >= 1 && len(s) <= 63
}

func isVal(s string) bool {
	for i := range len(s) {
		if s[i] < 32 || s[i] > 126 {
			return false
		}
	}
	return len(s) <= 255
}

func number(s string) (int, bool) {
	n, err := strconv.Atoi(s)
	return n, err == nil && n >= 0 && n <= highest && strconv.Itoa(n) == s
}

// get is Get by the document, on what the library splits.
func get(b []byte) ([]text.Pair, api.Errno) {
	if len(b) == 0 {
		return nil, api.OK
	}
	if b[len(b)-1] != 0 {
		return nil, api.ErrShort
	}
	var l []text.Pair
	seen := map[string]bool{}
	for i, s := range strings.Split(string(b[:len(b)-1]), "\x00") {
		if i == 64 {
			return nil, api.ErrSize
		}
		key, val, ok := strings.Cut(s, "=")
		if !ok || !isKey(key) || !isVal(val) || seen[key] {
			return nil, api.ErrForm
		}
		seen[key] = true
		l = append(l, text.Pair{Key: key, Val: val})
	}
	return l, api.OK
}

// row is a row of the document's table: what a value must be, and what is done with it.
type row struct {
	takes func(v string) bool
	does  func(p *text.Params, v string) []string // the answer, or none
}

func any1(v string) bool { return v != "" }

func all(string) bool { return true }

func oneOf(l ...string) func(string) bool {
	return func(v string) bool { return slices.Contains(l, v) }
}

func from(least, most int) func(string) bool {
	return func(v string) bool {
		n, ok := number(v)
		return ok && n >= least && n <= most
	}
}

func always(s string) func(*text.Params, string) []string {
	return func(*text.Params, string) []string { return []string{s} }
}

// lesser is the lesser of a value and a field, which it is then.
func lesser(of func(*text.Params) *int) func(*text.Params, string) []string {
	return func(p *text.Params, v string) []string {
		n, _ := number(v)
		if n < *of(p) {
			*of(p) = n
		}
		if *of(p) < 0 || *of(p) > highest {
			return []string{""}
		}
		return []string{strconv.Itoa(*of(p))}
	}
}

// sum is a list of digests, and the field that says whether there is one.
func sum(of func(*text.Params) *bool) func(*text.Params, string) []string {
	return func(p *text.Params, v string) []string {
		for _, w := range strings.Split(v, ",") {
			if w == "None" || w == "CRC32C" {
				*of(p) = w == "CRC32C"
				return []string{w}
			}
		}
		return []string{"Reject"}
	}
}

func yesNo(b bool) []string {
	if b {
		return []string{"Yes"}
	}
	return []string{"No"}
}

// table is the document's.
func table() map[string]row {
	choice := oneOf("Yes", "No")
	return map[string]row{
		"InitiatorName":  {any1, func(p *text.Params, v string) []string { p.Initiator = v; return nil }},
		"TargetName":     {any1, func(p *text.Params, v string) []string { p.Target = v; return nil }},
		"SessionType":    {oneOf("Normal", "Discovery"), func(p *text.Params, v string) []string { p.Discovery = v == "Discovery"; return nil }},
		"InitiatorAlias": {all, func(*text.Params, string) []string { return nil }},
		"AuthMethod": {all, func(_ *text.Params, v string) []string {
			if slices.Contains(strings.Split(v, ","), "None") {
				return []string{"None"}
			}
			return []string{"Reject"}
		}},
		"HeaderDigest": {all, sum(func(p *text.Params) *bool { return &p.HeadSum })},
		"DataDigest":   {all, sum(func(p *text.Params) *bool { return &p.DataSum })},
		"MaxRecvDataSegmentLength": {from(512, highest), func(p *text.Params, v string) []string {
			n, _ := number(v)
			p.MostOut = min(n, 65536)
			return nil
		}},
		"MaxBurstLength":   {from(512, highest), lesser(func(p *text.Params) *int { return &p.Burst })},
		"FirstBurstLength": {from(512, highest), lesser(func(p *text.Params) *int { return &p.First })},
		"InitialR2T": {choice, func(p *text.Params, v string) []string {
			if v == "Yes" {
				p.Asked = true
			}
			return yesNo(p.Asked)
		}},
		"ImmediateData": {choice, func(p *text.Params, v string) []string {
			if v == "No" {
				p.Immediate = false
			}
			return yesNo(p.Immediate)
		}},
		"MaxConnections":     {from(1, 65535), always("1")},
		"MaxOutstandingR2T":  {from(1, 65535), always("1")},
		"ErrorRecoveryLevel": {from(0, 2), always("0")},
		"DefaultTime2Wait": {from(0, 3600), func(_ *text.Params, v string) []string {
			if v == "0" || v == "1" {
				return []string{"2"}
			}
			return []string{v}
		}},
		"DefaultTime2Retain":  {from(0, 3600), always("0")},
		"DataPDUInOrder":      {choice, always("Yes")},
		"DataSequenceInOrder": {choice, always("Yes")},
		"IFMarker":            {choice, always("No")},
		"OFMarker":            {choice, always("No")},
	}
}

// tableKeys are those of the table, sorted.
func tableKeys() []string {
	var l []string
	for k := range table() {
		l = append(l, k)
	}
	slices.Sort(l)
	return l
}

// talk is Talk by the table.
func talk(p text.Params, l []text.Pair) ([]text.Pair, text.Params, api.Errno) {
	rows := table()
	now := p
	var answers []text.Pair
	for _, x := range l {
		r, ok := rows[x.Key]
		if !ok {
			r = row{all, always("NotUnderstood")}
		}
		if !r.takes(x.Val) {
			return nil, p, api.ErrArg
		}
		for _, v := range r.does(&now, x.Val) {
			answers = append(answers, text.Pair{Key: x.Key, Val: v})
		}
	}
	if now.First > now.Burst {
		now.First = now.Burst
	}
	return answers, now, api.OK
}

// sameTalk holds Talk against the table, and against P18.5.
func sameTalk(t *testing.T, p text.Params, l []text.Pair) ([]text.Pair, text.Params, api.Errno) {
	t.Helper()
	was := slices.Clone(l)
	got, now, e := text.Talk(p, l)
	want, wantNow, wantE := talk(p, l)
	if !slices.Equal(got, want) || now != wantNow || e != wantE {
		t.Fatalf("Talk of %+v %q: %q %+v %v, not %q %+v %v", p, l, got, now, e, want, wantNow, wantE)
	}
	if !slices.Equal(l, was) {
		t.Fatalf("Talk has changed %q", was)
	}
	if now.Burst > p.Burst || now.First > p.First || now.MostIn != p.MostIn {
		t.Fatalf("greater than it was: %+v, from %+v", now, p)
	}
	for _, x := range got {
		if !slices.ContainsFunc(l, func(y text.Pair) bool { return x.Key == y.Key }) {
			t.Fatalf("nobody has offered %q", x)
		}
	}
	return got, now, e
}

// sameGet holds Get against the plain one.
func sameGet(t *testing.T, b []byte) ([]text.Pair, api.Errno) {
	t.Helper()
	was := slices.Clone(b)
	got, e := text.Get(b)
	want, wantE := get(b)
	if !slices.Equal(got, want) || e != wantE || e != api.OK && got != nil {
		t.Fatalf("Get of %.200q: %q %v, not %q %v", b, got, e, want, wantE)
	}
	if !slices.Equal(b, was) {
		t.Fatalf("Get has changed %q", was)
	}
	return got, e
}

// anyKey and anyVal can be.
func anyKey(rnd *rand.Rand) string { return anyText(rnd, 1+rnd.Intn(63), keyBytes) }

func anyVal(rnd *rand.Rand) string {
	chars := make([]byte, 0, 95)
	for c := byte(32); c <= 126; c++ {
		chars = append(chars, c)
	}
	return anyText(rnd, rnd.Intn(256), string(chars))
}

func anyText(rnd *rand.Rand, n int, chars string) string {
	b := make([]byte, n)
	for i := range b {
		b[i] = chars[rnd.Intn(len(chars))]
	}
	return string(b)
}

// anyPairs are n pairs of different keys.
func anyPairs(rnd *rand.Rand, n int) []text.Pair {
	var l []text.Pair
	seen := map[string]bool{}
	for len(l) < n {
		if k := anyKey(rnd); !seen[k] {
			seen[k] = true
			l = append(l, text.Pair{Key: k, Val: anyVal(rnd)})
		}
	}
	return l
}

// pairs is written as key, value, key, value.
func pairs(s ...string) []text.Pair {
	var l []text.Pair
	for i := 0; i < len(s); i += 2 {
		l = append(l, text.Pair{Key: s[i], Val: s[i+1]})
	}
	return l
}
