package disk

import "foreman/api"

// segment has safe bytes, and behind so many of them the loose ones.
type segment struct {
	data []byte
	safe int
}

func (s *segment) grow(b []byte) {
	s.data = append(s.data, b...)
}

func (s *segment) sync() {
	s.safe = len(s.data)
}

func (s *segment) cut(n int) {
	s.data = s.data[:n]
	s.safe = min(s.safe, n)
}

func (s *segment) crash(keep int) {
	loose := len(s.data) - s.safe
	s.cut(s.safe + between(keep, loose))
	s.sync()
}

// headSlot is shown as it is safe until it is written: so it need not be told apart whether it was.
type headSlot struct {
	safe, shown [api.SlotSize]byte
}

func (s *headSlot) write(b []byte) {
	copy(s.shown[:], b)
}

func (s *headSlot) sync() {
	s.safe = s.shown
}

func (s *headSlot) crash(keep int) {
	copy(s.safe[:], s.shown[:between(keep, api.SlotSize)])
	s.shown = s.safe
}
