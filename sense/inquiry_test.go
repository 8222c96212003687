package sense_test

import (
	"bytes"
	"fmt"
	"math"
	"testing"

	"caisson/api"
	"caisson/sense"
)

// P16.2: the page that is not vital, byte by byte, whatever the unit.
func TestStandardPage(t *testing.T) {
	want := make([]byte, 36)
	want[2], want[3], want[4], want[5], want[7] = 6, 2, 31, 16, 2
	copy(want[8:], "caisson ")
	copy(want[16:], "block unit      ")
	copy(want[32:], "0001")
	for lun := range 256 {
		if b, e := sense.Inquiry(false, 0, lun); e != api.OK || !bytes.Equal(b, want) {
			t.Fatalf("%d: %q %v", lun, b, e)
		}
	}
}

// P16.2: the vital pages, byte by byte, of each unit.
func TestVitalPages(t *testing.T) {
	for lun := range 256 {
		serial := fmt.Sprintf("caisson-%03d", lun)
		for page, want := range map[int]string{
			0:   "\x00\x00\x00\x03\x00\x80\x83",
			128: "\x00\x80\x00\x0b" + serial,
			131: "\x00\x83\x00\x0f\x02\x01\x00\x0b" + serial,
		} {
			if b, e := sense.Inquiry(true, page, lun); e != api.OK || string(b) != want {
				t.Errorf("%d of %d: %q %v", page, lun, b, e)
			}
		}
	}
	if b, _ := sense.Inquiry(true, 0x80, 7); string(b[4:]) != "caisson-007" {
		t.Errorf("%q", b)
	}
}

// P16.2: how many bytes are said to follow do follow.
func TestPagesLengths(t *testing.T) {
	for _, page := range []int{0, 128, 131} {
		b, _ := sense.Inquiry(true, page, 255)
		if int(b[2])<<8|int(b[3]) != len(b)-4 || int(b[1]) != page || b[0] != 0 {
			t.Errorf("% x", b)
		}
	}
	if b, _ := sense.Inquiry(true, 131, 9); int(b[7]) != len(b)-8 {
		t.Errorf("% x", b)
	}
	if b, _ := sense.Inquiry(false, 0, 9); int(b[4]) != len(b)-5 {
		t.Errorf("% x", b)
	}
}

// P16.2: pages that there are not, and units; these ahead of those.
func TestInquiryRefuses(t *testing.T) {
	pages := []int{math.MinInt, math.MaxInt, 1 << 32, 1<<32 + 128, 1<<40 + 131, -1<<32 + 131}
	for page := -300; page < 1000; page++ {
		pages = append(pages, page)
	}
	for _, page := range pages {
		for _, vital := range []bool{false, true} {
			there := page == 0 || vital && (page == 128 || page == 131)
			for _, lun := range edges {
				want := api.OK
				if lun < 0 || lun > 255 {
					want = api.ErrArg
				} else if !there {
					want = api.ErrForm
				}
				b, e := sense.Inquiry(vital, page, lun)
				if e != want || (b == nil) != (e != api.OK) {
					t.Errorf("%v %d %d: % x %v, not %v", vital, page, lun, b, e, want)
				}
			}
		}
	}
}
