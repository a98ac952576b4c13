package ltp

import (
	"heliograph/api"
	"heliograph/receiver"
)

// talk collects what is said and heard in a call.
type talk struct {
	said  []api.Say
	heard []api.Heard
}

// What a talk's methods are handed on as.
type (
	sayer  func(to int, l ...api.Segment)
	hearer func(kind, peer int, session uint32, block []byte)
)

// The calls of layers 14 and 15 by which sessions are turned. Here they refuse nothing: the sessions may be, and what they are handed is for them.
type (
	sendingCall func(s api.Sending) (api.Sending, []api.Segment, api.Errno)
	takingCall  func(s api.Taking) (api.Taking, []api.Segment, api.Errno)
)

func (k *talk) say(to int, l ...api.Segment) {
	for _, x := range l {
		k.said = append(k.said, api.Say{To: to, Segment: x})
	}
}

func (k *talk) hear(kind, peer int, session uint32, block []byte) {
	k.heard = append(k.heard, api.Heard{Kind: kind, Peer: peer, Session: session, Block: block})
}

// turnedOut answers a session that sends behind a call. What becomes of its block is heard as soon as it is known: of one that is given up before its last word.
func turnedOut(o api.Outward, call sendingCall, say sayer, hear hearer) api.Outward {
	was := o.Sending.State
	s, sent, _ := call(o.Sending)
	say(o.To, sent...)
	switch {
	case was != api.SessionOpen || s.State == api.SessionOpen:
	case s.State == api.SessionDone:
		hear(api.HeardSent, o.To, s.Session, nil)
	default:
		hear(api.HeardLost, o.To, s.Session, nil)
	}
	return api.Outward{To: o.To, Sending: s}
}

// turnedIn answers a session that takes in behind a call.
func turnedIn(s api.Taking, call takingCall, say sayer, hear hearer) api.Taking {
	s, sent, _ := call(s)
	say(s.Source, sent...)
	if s.State == api.SessionDone {
		block, _ := receiver.Block(s)
		hear(api.HeardBlock, s.Source, s.Session, block)
	}
	return s
}

// ended answers whether a session in that State goes; one that is given up, and waits for an answer to that, stays.
func ended(state int) bool {
	return state == api.SessionDone || state == api.SessionOver
}

// about is a segment of the same session.
func about(x api.Segment, kind int) api.Segment {
	return api.Segment{Kind: kind, Source: x.Source, Session: x.Session}
}
