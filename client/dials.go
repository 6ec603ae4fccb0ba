package client

// dials is from when on it may dial, and how long it waits ahead of the next dial if that one fails.
type dials struct {
	least, most   int
	from, backoff int
}

func newDials(least, most int) dials { return dials{least: least, most: most, backoff: least} }

func (d *dials) mayDial(at int) bool { return at >= d.from }

func (d *dials) succeeded() { d.backoff = d.least }

// failed is of a dial, or of a connection.
func (d *dials) failed(at int) {
	d.from = at + d.backoff
	d.backoff = min(2*d.backoff, d.most)
}
