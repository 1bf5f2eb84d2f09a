package node

import (
	"choirloft/api"
	"choirloft/layer"
	"choirloft/order"
	"choirloft/out"
)

const wait = 10 // so long what came waits for what is lacking ahead of it, at most

// subscriber is somebody who wants a track, up to a layer.
type subscriber struct {
	track, most int
	order       *order.Order
	layer       *layer.Layer
	row         *out.Out
	got         []api.Packet // since it was asked last
}

// begin makes all new by which packets come to what it got.
func (s *subscriber) begin() error {
	items, err := order.New(wait)
	if err != nil {
		return err
	}
	one, err := layer.New(s.most)
	if err != nil {
		return err
	}
	row, err := out.New(0, 0)
	if err != nil {
		return err
	}
	s.order, s.layer, s.row = items, one, row
	return nil
}

// push takes a packet in its order. One that is too far ahead is lost on this subscriber, but time goes on all the same.
func (s *subscriber) push(number int, p api.Packet, now int) {
	_, _ = s.order.Push(number, p, now)
	s.pop(now)
}

// gone takes it that a number does not come. To who got nothing yet it tells nothing.
func (s *subscriber) gone(number, now int) {
	_ = s.order.Gone(number, now)
}

// pop takes what is next in order, and puts what goes through to what it got.
func (s *subscriber) pop(now int) {
	items, err := s.order.Pop(now)
	if err != nil {
		return
	}
	for _, item := range items {
		if goes, err := s.layer.Take(item); err != nil || !goes {
			continue
		}
		if p, err := s.row.Next(item.Packet); err == nil {
			s.got = append(s.got, p)
		}
	}
}
