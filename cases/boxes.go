package cases

import "pippin/api"

// Box returns a small box that is valid, with none, one or several of everything.
func (d *Dice) Box() api.Box {
	x := api.Box{Book: d.MarkBook(3, 5), Trees: 1 + d.Below(api.MaxBoxTrees)}
	for range d.Below(6) {
		x.Fruits = append(x.Fruits, d.Fruit(x.Book, 3))
	}
	return d.Tied(x)
}

// Tied returns a box with some pairs of fruits tied.
func (d *Dice) Tied(x api.Box) api.Box {
	for range d.Below(3) {
		if b := d.Below(len(x.Fruits) + 1); b > 0 && b < len(x.Fruits) {
			x.Tied = append(x.Tied, api.BoxPair{A: d.Below(b), B: b})
		}
	}
	return x
}
