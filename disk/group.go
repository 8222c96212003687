package disk

import "caisson/api"

// keptBits is how many bits of a number tell which sectors of a group are kept.
const keptBits = 16

// group is what was written at once: its bytes, without the 0 behind them, from the sector at on.
type group struct {
	at    int
	bytes []byte
}

func (g group) sectors() int { return sectorsOf(len(g.bytes)) }

// layOver writes all sectors of the group into image.
func (g group) layOver(image []byte) {
	lay(span(image, g.at, g.sectors()), g.bytes)
}

// layKeptOver writes those sectors of the group into image whose bit of kept is 1; behind the last bit the first one counts again.
func (g group) layKeptOver(image []byte, kept int) {
	for k := range g.sectors() {
		if kept>>(k%keptBits)&1 == 1 {
			lay(span(image, g.at+k, 1), g.part(k))
		}
	}
}

// part is the bytes of the group's sector k; the last one may have fewer than a sector.
func (g group) part(k int) []byte {
	end := min((k+1)*api.Sector, len(g.bytes))
	return g.bytes[k*api.Sector : end : end]
}

// lay copies b into sectors, with 0 behind it.
func lay(sectors, b []byte) {
	clear(sectors[copy(sectors, b):])
}

// span is the n sectors of image from at on; it can not grow into those behind them.
func span(image []byte, at, n int) []byte {
	end := (at + n) * api.Sector
	return image[at*api.Sector : end : end]
}

// sectorsOf is how many sectors so many bytes take.
func sectorsOf(length int) int { return (length + api.Sector - 1) / api.Sector }
