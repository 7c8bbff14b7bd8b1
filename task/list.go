package task

// list has elements, one after the other; nil has none. It is a tree with the elements as its leaves, because joining lists then takes the same time however long they are, and changes neither of them.
type list[E any] struct {
	front, back *list[E]
	element     E
}

// only is the list of one element.
func only[E any](e E) *list[E] {
	return &list[E]{element: e}
}

// join is the list of the elements of a, and then those of b.
func join[E any](a, b *list[E]) *list[E] {
	switch {
	case a == nil:
		return b
	case b == nil:
		return a
	}
	return &list[E]{front: a, back: b}
}

// first is the first element of a list that has one, and the list of the others. That list has its own first element near at hand, so going through a list takes time in proportion to its length, whatever its form.
func first[E any](l *list[E]) (E, *list[E]) {
	var others *list[E]
	for l.front != nil {
		others = join(l.back, others)
		l = l.front
	}
	return l.element, others
}
