package text_test

import (
	"math"
	"math/rand"
	"slices"
	"strconv"
	"strings"
	"testing"

	"caisson/api"
	"caisson/text"
)

// P18.2: what holds at first.
func TestDefault(t *testing.T) {
	want := text.Params{MostOut: 8192, MostIn: 8192, Burst: 262144, First: 65536, Asked: true, Immediate: true}
	if text.Default() != want {
		t.Errorf("%+v", text.Default())
	}
}

// P18.3: the document's example.
func TestTalkOfTheExample(t *testing.T) {
	l, p, e := sameTalk(t, text.Default(), pairs("HeaderDigest", "CRC32C,None", "MaxBurstLength", "1000", "X", "1"))
	want := text.Default()
	want.HeadSum, want.Burst, want.First = true, 1000, 1000
	if e != api.OK || p != want || !slices.Equal(l, pairs("HeaderDigest", "CRC32C", "MaxBurstLength", "1000", "X", "NotUnderstood")) {
		t.Errorf("%q %+v %v", l, p, e)
	}
}

// told talks one pair over: what is answered, none being "-", and what holds then; ErrArg is "!".
func told(t *testing.T, p text.Params, key, val string) (string, text.Params) {
	t.Helper()
	l, now, e := sameTalk(t, p, pairs(key, val))
	switch {
	case e == api.ErrArg && len(l) == 0 && now == p:
		return "!", now
	case e == api.OK && len(l) == 0:
		return "-", now
	case e == api.OK && len(l) == 1 && l[0].Key == key:
		return l[0].Val, now
	}
	t.Fatalf("%s=%s: %q %+v %v", key, val, l, now, e)
	return "", now
}

// P18.3: each key of the table, with each kind of value that it takes, written out one by one: the answer, and what holds then.
func TestEachKey(t *testing.T) {
	with := func(change func(*text.Params)) text.Params {
		p := text.Default()
		change(&p)
		return p
	}
	plain := text.Default()
	for _, c := range []struct {
		key, val, answer string
		now              text.Params
	}{
		{"InitiatorName", "i", "-", with(func(p *text.Params) { p.Initiator = "i" })},
		{"InitiatorName", "iqn.2001-04.com.example:a", "-", with(func(p *text.Params) { p.Initiator = "iqn.2001-04.com.example:a" })},
		{"TargetName", "t", "-", with(func(p *text.Params) { p.Target = "t" })},
		{"SessionType", "Normal", "-", plain},
		{"SessionType", "Discovery", "-", with(func(p *text.Params) { p.Discovery = true })},
		{"InitiatorAlias", "me", "-", plain},
		{"InitiatorAlias", "", "-", plain},
		{"AuthMethod", "None", "None", plain},
		{"AuthMethod", "CHAP,None", "None", plain},
		{"AuthMethod", "CHAP", "Reject", plain},
		{"HeaderDigest", "None", "None", plain},
		{"HeaderDigest", "CRC32C", "CRC32C", with(func(p *text.Params) { p.HeadSum = true })},
		{"HeaderDigest", "None,CRC32C", "None", plain},
		{"HeaderDigest", "X,CRC32C,None", "CRC32C", with(func(p *text.Params) { p.HeadSum = true })},
		{"HeaderDigest", "X", "Reject", plain},
		{"DataDigest", "None", "None", plain},
		{"DataDigest", "CRC32C", "CRC32C", with(func(p *text.Params) { p.DataSum = true })},
		{"DataDigest", "None,CRC32C", "None", plain},
		{"DataDigest", "X,CRC32C,None", "CRC32C", with(func(p *text.Params) { p.DataSum = true })},
		{"DataDigest", "X", "Reject", plain},
		{"MaxRecvDataSegmentLength", "512", "-", with(func(p *text.Params) { p.MostOut = 512 })},
		{"MaxRecvDataSegmentLength", "65536", "-", with(func(p *text.Params) { p.MostOut = 65536 })},
		{"MaxRecvDataSegmentLength", "65537", "-", with(func(p *text.Params) { p.MostOut = 65536 })},
		{"MaxRecvDataSegmentLength", "16777215", "-", with(func(p *text.Params) { p.MostOut = 65536 })},
		{"MaxBurstLength", "512", "512", with(func(p *text.Params) { p.Burst, p.First = 512, 512 })},
		{"MaxBurstLength", "262143", "262143", with(func(p *text.Params) { p.Burst = 262143 })},
		{"MaxBurstLength", "16777215", "262144", plain},
		{"FirstBurstLength", "512", "512", with(func(p *text.Params) { p.First = 512 })},
		{"FirstBurstLength", "65535", "65535", with(func(p *text.Params) { p.First = 65535 })},
		{"FirstBurstLength", "16777215", "65536", plain},
		{"InitialR2T", "Yes", "Yes", plain},
		{"InitialR2T", "No", "Yes", plain},
		{"ImmediateData", "Yes", "Yes", plain},
		{"ImmediateData", "No", "No", with(func(p *text.Params) { p.Immediate = false })},
		{"MaxConnections", "1", "1", plain},
		{"MaxConnections", "65535", "1", plain},
		{"MaxOutstandingR2T", "1", "1", plain},
		{"MaxOutstandingR2T", "65535", "1", plain},
		{"ErrorRecoveryLevel", "0", "0", plain},
		{"ErrorRecoveryLevel", "1", "0", plain},
		{"ErrorRecoveryLevel", "2", "0", plain},
		{"DefaultTime2Wait", "0", "2", plain},
		{"DefaultTime2Wait", "1", "2", plain},
		{"DefaultTime2Wait", "2", "2", plain},
		{"DefaultTime2Wait", "3", "3", plain},
		{"DefaultTime2Wait", "3600", "3600", plain},
		{"DefaultTime2Retain", "0", "0", plain},
		{"DefaultTime2Retain", "3600", "0", plain},
		{"DataPDUInOrder", "Yes", "Yes", plain},
		{"DataPDUInOrder", "No", "Yes", plain},
		{"DataSequenceInOrder", "Yes", "Yes", plain},
		{"DataSequenceInOrder", "No", "Yes", plain},
		{"IFMarker", "Yes", "No", plain},
		{"IFMarker", "No", "No", plain},
		{"OFMarker", "Yes", "No", plain},
		{"OFMarker", "No", "No", plain},
		{"X", "1", "NotUnderstood", plain},
	} {
		if answer, now := told(t, text.Default(), c.key, c.val); answer != c.answer || now != c.now {
			t.Errorf("%s=%s: %q %+v", c.key, c.val, answer, now)
		}
	}
}

// values are of any kind, at the bounds of each key.
func values() []string {
	l := []string{"", " ", "Yes", "No", "yes", "no", "YES", "Yes ", " Yes", "YesNo", "Yes,No", "Normal", "Discovery", "normal", "Discovery ", "None", "none", "CRC32C", "crc32c", "None,CRC32C", "CRC32C,None", "X,None", "X,CRC32C", "X,Y", "None ", "CRC32C ,None", " None,CRC32C", "None,", ",None", ",", ",,", "CRC32C,", ",CRC32C", "NoneCRC32C", "None;CRC32C", "None=CRC32C", "CHAP,SRP,None", "Reject", "NotUnderstood", "Irrelevant", "a=b", "ä", "\x00", "\xff", strings.Repeat("x", 300), "None\x00", "+512", "-512", "512.0", "0512", "00", "01", "0x200", "512 ", " 512", "1e3", "99999999999999999999"}
	for _, n := range []int{0, 1, 2, 3, 4, 511, 512, 513, 3599, 3600, 3601, 8192, 65534, 65535, 65536, 65537, 262143, 262144, 262145, 16777214, 16777215, 16777216, 16777217, math.MaxInt} {
		l = append(l, strconv.Itoa(n))
	}
	return append(l, "-1", "-0", strconv.Itoa(math.MinInt))
}

// otherKeys are not in the table.
func otherKeys() []string {
	l := []string{"", "X", "ä", "\x00", "SendTargets", "TargetAlias", "TargetAddress", "X-com.example", "headerdigest", "HEADERDIGEST", "MaxRecvDataSegmentLengt", "=", " "}
	for _, k := range tableKeys() {
		l = append(l, k+" ", " "+k, k[1:], k[:len(k)-1], strings.ToLower(k), strings.ToUpper(k), k+"=", k+"\x00")
	}
	return l
}

// params are what was agreed on before, of any kind.
func params() []text.Params {
	l := []text.Params{text.Default(), {}, {HeadSum: true, DataSum: true, Discovery: true, Initiator: "a", Target: "b"}, {Asked: true}, {Immediate: true}}
	numbers := []int{math.MinInt, -16777215, -1, 0, 1, 511, 512, 1000, 16777215, 16777216, math.MaxInt}
	for _, n := range numbers {
		l = append(l, text.Params{MostOut: n, MostIn: n, HeadSum: true})
		for _, m := range numbers {
			l = append(l, text.Params{Burst: n, First: m, Asked: m > 0, Immediate: n > 0})
		}
	}
	return l
}

// P18.3, P18.5: each key with each value and each of what was agreed on before, against the table.
func TestEachKeyWithEachValue(t *testing.T) {
	for _, p := range params() {
		sameTalk(t, p, nil)
		for _, k := range append(tableKeys(), "X") {
			for _, v := range values() {
				told(t, p, k, v)
			}
		}
	}
}

// P18.3: values that keys do not take: ErrArg, no answer, and all is what it was, whatever came ahead.
func TestValuesThatAreNotTaken(t *testing.T) {
	choices := []string{"", "yes", "no", "YES", "Yes ", " No", "Yes,No", "1", "0", "None", "true"}
	numbers := []string{"", "-1", "+600", "0600", " 600", "600 ", "six", "600.0", "16777216", "99999999999999999999", "Yes"}
	wrong := map[string][]string{
		"InitiatorName":            {""},
		"TargetName":               {""},
		"SessionType":              {"", "normal", "discovery", "Normal ", "Discovery,Normal", "Yes"},
		"MaxRecvDataSegmentLength": append([]string{"0", "511"}, numbers...),
		"MaxBurstLength":           append([]string{"0", "511"}, numbers...),
		"FirstBurstLength":         append([]string{"0", "511"}, numbers...),
		"MaxConnections":           append([]string{"0", "65536"}, numbers...),
		"MaxOutstandingR2T":        append([]string{"0", "65536"}, numbers...),
		"ErrorRecoveryLevel":       append([]string{"3", "00"}, numbers...),
		"DefaultTime2Wait":         append([]string{"3601", "00"}, numbers...),
		"DefaultTime2Retain":       append([]string{"3601", "00"}, numbers...),
		"InitialR2T":               choices,
		"ImmediateData":            choices,
		"DataPDUInOrder":           choices,
		"DataSequenceInOrder":      choices,
		"IFMarker":                 choices,
		"OFMarker":                 choices,
	}
	ahead := pairs("InitiatorName", "i", "TargetName", "t", "SessionType", "Discovery", "HeaderDigest", "CRC32C", "DataDigest", "CRC32C", "MaxRecvDataSegmentLength", "600", "MaxBurstLength", "600", "FirstBurstLength", "600", "ImmediateData", "No", "X", "1")
	p := text.Params{MostOut: 1, MostIn: 2, Burst: 700, First: 800, Immediate: true}
	for _, k := range tableKeys() {
		for _, v := range wrong[k] {
			if answer, _ := told(t, text.Default(), k, v); answer != "!" {
				t.Errorf("%s=%s: %q", k, v, answer)
			}
			for _, l := range [][]text.Pair{slices.Concat(ahead, pairs(k, v)), slices.Concat(ahead, pairs(k, v), ahead), slices.Concat(pairs(k, v), ahead)} {
				if got, now, e := sameTalk(t, p, l); e != api.ErrArg || got != nil || now != p {
					t.Errorf("%s=%s behind others: %q %+v %v", k, v, got, now, e)
				}
			}
		}
	}
}

// P18.3: keys that are not in the table, with values of any kind.
func TestOtherKeys(t *testing.T) {
	for _, k := range otherKeys() {
		for _, v := range []string{"", "1", "Yes", "None", "\x00", "ä", strings.Repeat("x", 300)} {
			if answer, now := told(t, text.Default(), k, v); answer != "NotUnderstood" || now != text.Default() {
				t.Errorf("%q=%q: %q %+v", k, v, answer, now)
			}
		}
	}
}

// P18.3: First and MaxBurst in either order: each is answered by itself, and at last First is no more than Burst.
func TestFirstAndBurst(t *testing.T) {
	for _, c := range []struct {
		l            []text.Pair
		a, b         string
		first, burst int
	}{
		{pairs("FirstBurstLength", "2000", "MaxBurstLength", "1000"), "2000", "1000", 1000, 1000},
		{pairs("MaxBurstLength", "1000", "FirstBurstLength", "2000"), "1000", "2000", 1000, 1000},
		{pairs("FirstBurstLength", "1000", "MaxBurstLength", "2000"), "1000", "2000", 1000, 2000},
		{pairs("MaxBurstLength", "2000", "FirstBurstLength", "1000"), "2000", "1000", 1000, 2000},
		{pairs("FirstBurstLength", "16777215", "MaxBurstLength", "512"), "65536", "512", 512, 512},
		{pairs("MaxBurstLength", "512", "FirstBurstLength", "16777215"), "512", "65536", 512, 512},
		{pairs("MaxBurstLength", "16777215", "FirstBurstLength", "16777215"), "262144", "65536", 65536, 262144},
		{pairs("MaxBurstLength", "3000", "MaxBurstLength", "4000"), "3000", "3000", 3000, 3000},
		{pairs("FirstBurstLength", "4000", "FirstBurstLength", "3000"), "4000", "3000", 3000, 262144},
	} {
		l, p, e := sameTalk(t, text.Default(), c.l)
		want := text.Default()
		want.First, want.Burst = c.first, c.burst
		if e != api.OK || len(l) != 2 || l[0] != (text.Pair{Key: c.l[0].Key, Val: c.a}) || l[1] != (text.Pair{Key: c.l[1].Key, Val: c.b}) || p != want {
			t.Errorf("%q: %q %+v %v", c.l, l, p, e)
		}
	}
	// what can not be written is answered with an empty value, and First is Burst also where nothing was offered
	for _, c := range []struct {
		first, burst int
		key, answer  string
		nowFirst     int
		nowBurst     int
	}{
		{5, -1, "MaxBurstLength", "", -1, -1},
		{-7, 600, "FirstBurstLength", "", -7, 600},
		{-7, -9, "FirstBurstLength", "", -9, -9},
		{math.MinInt, math.MaxInt, "FirstBurstLength", "", math.MinInt, math.MaxInt},
		{0, 0, "MaxBurstLength", "0", 0, 0},
		{math.MaxInt, math.MaxInt, "MaxBurstLength", "700", 700, 700},
		{math.MaxInt, math.MaxInt, "FirstBurstLength", "700", 700, math.MaxInt},
		{800, 700, "X", "NotUnderstood", 700, 700},
		{800, 700, "InitiatorAlias", "-", 700, 700},
	} {
		answer, now := told(t, text.Params{First: c.first, Burst: c.burst}, c.key, "700")
		if answer != c.answer || now != (text.Params{First: c.nowFirst, Burst: c.nowBurst}) {
			t.Errorf("%+v: %q %+v", c, answer, now)
		}
	}
	if l, p, e := sameTalk(t, text.Params{First: 800, Burst: 700}, nil); len(l) != 0 || p != (text.Params{First: 700, Burst: 700}) || e != api.OK {
		t.Error("nothing offered:", l, p, e)
	}
}

// P18.3: what was agreed on before, and a key that comes again.
func TestTalkGoesOn(t *testing.T) {
	p := text.Params{HeadSum: true, DataSum: true, Discovery: true, Initiator: "a", Target: "b", MostIn: 7}
	for _, c := range []struct {
		key, val, answer string
		now              func(*text.Params)
	}{
		{"HeaderDigest", "X", "Reject", func(*text.Params) {}}, // it stays
		{"DataDigest", "", "Reject", func(*text.Params) {}},
		{"HeaderDigest", "None", "None", func(p *text.Params) { p.HeadSum = false }},
		{"DataDigest", "Y,None,CRC32C", "None", func(p *text.Params) { p.DataSum = false }},
		{"SessionType", "Normal", "-", func(p *text.Params) { p.Discovery = false }},
		{"InitiatorName", "c", "-", func(p *text.Params) { p.Initiator = "c" }},
		{"TargetName", "d", "-", func(p *text.Params) { p.Target = "d" }},
		{"InitialR2T", "No", "No", func(*text.Params) {}},
		{"InitialR2T", "Yes", "Yes", func(p *text.Params) { p.Asked = true }},
		{"ImmediateData", "Yes", "No", func(*text.Params) {}},
		{"ImmediateData", "No", "No", func(*text.Params) {}},
	} {
		want := p
		c.now(&want)
		if answer, now := told(t, p, c.key, c.val); answer != c.answer || now != want {
			t.Errorf("%s=%s: %q %+v", c.key, c.val, answer, now)
		}
	}
	l, now, e := sameTalk(t, text.Default(), pairs("HeaderDigest", "CRC32C", "InitiatorName", "a", "HeaderDigest", "X", "ImmediateData", "No", "InitiatorName", "b", "ImmediateData", "Yes", "HeaderDigest", "None"))
	want := text.Default()
	want.Initiator, want.Immediate = "b", false
	if e != api.OK || now != want || !slices.Equal(l, pairs("HeaderDigest", "CRC32C", "HeaderDigest", "Reject", "ImmediateData", "No", "ImmediateData", "No", "HeaderDigest", "None")) {
		t.Errorf("%q %+v %v", l, now, e)
	}
}

// P18.3, P18.5: many pairs of any kind, one behind the other, answered in their order.
func TestTalkAtRandom(t *testing.T) {
	rnd := rand.New(rand.NewSource(3))
	known, others, vals, before := tableKeys(), otherKeys(), values(), params()
	rows := table()
	errors := map[api.Errno]int{}
	for range 30000 {
		var l []text.Pair
		for range rnd.Intn(100) {
			x := text.Pair{Key: known[rnd.Intn(len(known))], Val: vals[rnd.Intn(len(vals))]}
			if rnd.Intn(10) == 0 {
				x.Key = others[rnd.Intn(len(others))]
			}
			for r, ok := rows[x.Key]; ok && !r.takes(x.Val) && rnd.Intn(100) > 0; {
				x.Val = vals[rnd.Intn(len(vals))]
			}
			l = append(l, x)
		}
		_, _, e := sameTalk(t, before[rnd.Intn(len(before))], l)
		errors[e]++
	}
	for _, e := range []api.Errno{api.OK, api.ErrArg} {
		if errors[e] < 1000 {
			t.Error("too few", e, errors[e])
		}
	}
}

// Rules 4 and 5: answers are new memory.
func TestAnswersAreNew(t *testing.T) {
	l := pairs("X", "1", "Y", "2")
	first, _, _ := text.Talk(text.Default(), l)
	second, _, _ := text.Talk(text.Default(), l)
	first[0] = text.Pair{}
	_ = append(first, text.Pair{})
	clear(l)
	if !slices.Equal(second, pairs("X", "NotUnderstood", "Y", "NotUnderstood")) {
		t.Errorf("%q", second)
	}
}
