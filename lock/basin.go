package lock

// basin holds things of which the one that came in last leaves first.
type basin[T any] struct{ held []T }

func (b *basin[T]) isEmpty() bool { return len(b.held) == 0 }

func (b *basin[T]) bring(thing T) { b.held = append(b.held, thing) }

// last returns what came in last. The basin must not be empty.
func (b *basin[T]) last() T { return b.held[len(b.held)-1] }

// take takes out what came in last. The basin must not be empty.
func (b *basin[T]) take() T {
	thing := b.last()
	b.held = b.held[:len(b.held)-1]
	return thing
}
