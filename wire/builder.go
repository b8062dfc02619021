package wire

import "chartulary/api"

// reader reads items, one behind the other, and knows whether one was beyond its bounds.
type reader struct {
	left  []api.Item
	wrong bool
}

// next reads an item.
func (r *reader) next() api.Item {
	x := r.left[0]
	r.left = r.left[1:]
	return x
}

// number reads a number from low to high.
func (r *reader) number(low, high int) int {
	n := r.next().N
	r.wrong = r.wrong || n < low || n > high
	return n
}

// node reads a node.
func (r *reader) node() int {
	return r.number(1, api.MaxNodes)
}

// count reads a number as sets, boots and calls have.
func (r *reader) count() int {
	return r.number(1, api.MaxSet)
}

// pair reads a ballot, or none: of that both numbers are 0.
func (r *reader) pair() api.Ballot {
	b := api.Ballot{N: r.number(0, api.MaxSet), Node: r.number(0, api.MaxNodes)}
	r.wrong = r.wrong || (b.N == 0) != (b.Node == 0)
	return b
}

// builder lays what it reads into a note.
type builder struct {
	reader
	note api.Note
}

// head lays what each note begins with. That there is such a kind is known, for it has a form.
func (b *builder) head() {
	b.note.Kind, b.note.From, b.note.To = b.next().N, b.node(), b.node()
	b.wrong = b.wrong || b.note.From == b.note.To
}

// lay lays what a letter says.
func (b *builder) lay(letter rune) {
	var do func()
	switch letter {
	case call:
		do = b.call
	case set:
		do = b.set
	case home:
		do = b.home
	case ballot:
		do = b.ballot
	case other:
		do = b.other
	case yes:
		do = b.yes
	case id:
		do = b.id
	case data:
		do = b.data
	case ids:
		do = b.ids
	default:
		do = b.words
	}
	do()
}

func (b *builder) call() {
	b.note.Call = api.Call{Node: b.node(), Boot: b.count(), N: b.count()}
}

func (b *builder) set() {
	b.note.Set = b.count()
}

func (b *builder) home() {
	b.note.Home = b.node()
}

func (b *builder) ballot() {
	b.note.Ballot = b.pair()
	b.wrong = b.wrong || b.note.Ballot == api.Ballot{}
}

func (b *builder) other() {
	b.note.Other = b.pair()
}

func (b *builder) yes() {
	b.note.Yes = b.number(truth(false), truth(true)) == truth(true)
}

func (b *builder) id() {
	b.note.ID = b.next().ID
}

func (b *builder) data() {
	b.note.Data = b.next().B
}

func (b *builder) ids() {
	for range b.number(0, api.MaxNodes) {
		b.note.IDs = append(b.note.IDs, b.next().ID)
	}
}

func (b *builder) words() {
	for range b.number(0, api.MaxNodes) {
		b.note.Words = append(b.note.Words, api.Member{ID: b.node(), Status: b.number(api.Alive, api.Left), Inc: b.number(0, api.MaxTicks)})
	}
}
