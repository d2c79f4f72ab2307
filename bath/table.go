package bath

import "mandrel/api"

// The columns of a row that are behind those of the moves.
const (
	changeColumn = api.MaxBathMoves
	weightColumn = changeColumn + 1
	columns      = weightColumn + api.MaxBathKinds
)

// row is a sum of things times weights: by how much each move changes it, by how much it differs between two stocks, and the weights.
type row [columns]fraction

// over returns the sum with all weights divided by a number.
func (r row) over(f fraction) row {
	for i := range r {
		r[i] = r[i].by(f)
	}
	return r
}

// less returns the sum less another one so many times.
func (r row) less(times fraction, other row) row {
	for i := range r {
		r[i] = r[i].less(times, other[i])
	}
	return r
}

// table is a workshop with as many rows as kinds. The first ones are led by moves that change just one of the rows, by 1.
type table struct {
	*board
	rows  []row
	leads []int
}

// table returns the table for two stocks, in which no move changes a row that is led by none.
func (b *board) table(from, to stock) *table {
	t := &table{board: b}
	for kind := range b.Caps {
		t.rows = append(t.rows, b.row(kind, to[kind]-from[kind]))
	}
	t.eliminate()
	return t
}

// row returns the things of one kind as a row, if they differ by so many.
func (b *board) row(kind int, differ int64) row {
	var r row
	for i := range r {
		r[i] = whole(0)
	}
	for move := range b.Moves {
		r[move] = whole(b.gain(move, kind))
	}
	r[changeColumn] = whole(differ)
	r[weightColumn+kind] = whole(1)
	return r
}

// eliminate lets each move lead a row, if it changes one that is not led yet.
func (t *table) eliminate() {
search:
	for move := range t.Moves {
		for i := len(t.leads); i < len(t.rows); i++ {
			if t.rows[i][move] != whole(0) {
				t.lead(move, i)
				continue search
			}
		}
	}
}

// lead lets a move lead a row, and takes it out of all others.
func (t *table) lead(move, i int) {
	at := len(t.leads)
	t.leads = append(t.leads, move)
	led := t.rows[i].over(t.rows[i][move])
	t.rows[i] = t.rows[at]
	for j, r := range t.rows {
		t.rows[j] = r.less(r[move], led)
	}
	t.rows[at] = led
}

// parting returns weights that part the stocks; not ok if none do.
// A row that is led by none has weights that no move changes, and all such weights are sums of these.
func (t *table) parting() ([]int64, bool) {
	for _, r := range t.rows[len(t.leads):] {
		if r[changeColumn] != whole(0) {
			numbers, _ := together(r[weightColumn : weightColumn+len(t.rows)]...)
			return numbers, true
		}
	}
	return nil, false
}

// mixture returns a mixture that gives the way; not ok if none does.
// If nothing is left to change in rows that are led by none, the moves that lead the others are made as often as these have to change.
func (t *table) mixture() (api.BathMix, bool) {
	if _, ok := t.parting(); ok {
		return api.BathMix{}, false
	}
	var times [api.MaxBathMoves]fraction
	for move := range times {
		times[move] = whole(0)
	}
	for i, move := range t.leads {
		times[move] = t.rows[i][changeColumn]
	}
	numbers, den := together(times[:len(t.Moves)]...)
	return api.BathMix{Times: numbers, Den: den}, true
}
