package tests

import (
	"fmt"
	"math"
	"testing"

	"loop.example/g00224/impl"
)

func TestStatesThatAreGood(t *testing.T) {
	checkGoodState(t, "the zero state", impl.KvState{}, true)
	checkGoodState(t, "empty lists", impl.KvState{Cells: []impl.Pair{}, Sessions: []impl.Session{}}, true)
	for name, s := range manyStates() {
		checkGoodState(t, name, s, true)
	}
}

func TestStatesThatAreNotGood(t *testing.T) {
	for name, s := range badStates() {
		checkGoodState(t, name, s, false)
	}
}

// badStates have each just one thing wrong.
func badStates() map[string]impl.KvState {
	l := map[string]impl.KvState{
		"41 cells":               numberedState(41, 0),
		"41 cells, all sessions": numberedState(41, 12),
		"13 sessions":            numberedState(0, 13),
		"13 sessions, all cells": numberedState(40, 13),
		"two cells of one Key":   {Cells: []impl.Pair{pair("k", "v"), pair("k", "w")}},
		"two cells alike":        {Cells: []impl.Pair{pair("k", "v"), pair("k", "v")}},
		"two cells turned round": {Cells: []impl.Pair{pair("l", "v"), pair("k", "w")}},
		"the longer Key ahead":   {Cells: []impl.Pair{pair("kk", "v"), pair("k", "w")}},
		"the greater byte ahead": {Cells: []impl.Pair{pair("\xff", "v"), pair("a", "w")}},
		"two sessions of one Id": {Sessions: []impl.Session{heard(3, 1, 0, ""), heard(3, 2, 0, "x")}},
		"two sessions alike":     {Sessions: []impl.Session{heard(3, 1, 0, ""), heard(3, 1, 0, "")}},
		"two sessions turned":    {Sessions: []impl.Session{heard(4, 1, 0, ""), heard(3, 1, 0, "")}},
		"the zero cell":          {Cells: []impl.Pair{{}}},
		"the zero session":       {Sessions: []impl.Session{{}}},
		"two of 12 sessions turned": changedState(numberedState(3, 12), func(s *impl.KvState) {
			s.Sessions[10], s.Sessions[11] = s.Sessions[11], s.Sessions[10]
		}),
		"two of 40 cells turned": changedState(numberedState(40, 3), func(s *impl.KvState) { s.Cells[38], s.Cells[39] = s.Cells[39], s.Cells[38] }),
	}
	for _, key := range []string{"", sized(17), repeated(0, 17), sized(5000)} {
		l[fmt.Sprintf("a Key of %d bytes %.3q", len(key), key)] = impl.KvState{Cells: []impl.Pair{pair(key, "v")}}
	}
	for _, size := range []int{41, 42, 5000} {
		l[fmt.Sprint("a value of ", size)] = impl.KvState{Cells: []impl.Pair{pair("k", sized(size))}}
		l[fmt.Sprint("a Reply with a value of ", size)] = impl.KvState{Sessions: []impl.Session{heard(3, 1, 0, sized(size))}}
	}
	for _, id := range []int{math.MinInt, -1, 100, math.MaxInt} {
		l[fmt.Sprint("Id ", id)] = impl.KvState{Sessions: []impl.Session{heard(id, 1, 0, "")}}
	}
	for _, last := range []int{math.MinInt, -1, 0, 1000001, math.MaxInt} {
		l[fmt.Sprint("Last ", last)] = impl.KvState{Sessions: []impl.Session{heard(3, last, 0, "")}}
	}
	for _, code := range []int{math.MinInt, -1, 5, math.MaxInt} {
		l[fmt.Sprint("Code ", code)] = impl.KvState{Sessions: []impl.Session{heard(3, 1, code, "")}}
	}
	return l
}

func TestHowManyCellsAStateHas(t *testing.T) {
	if impl.MaxCells != 40 || impl.MaxSessions != 12 || impl.MaxCommands != 100 {
		t.Error("a limit is another one")
	}
	for many := range 45 {
		checkGoodState(t, "cells", numberedState(many, 0), many <= 40)
		checkGoodState(t, "cells beside all sessions", numberedState(many, 12), many <= 40)
	}
	checkGoodState(t, "many cells", numberedState(100, 0), false)
}

func TestHowManySessionsAStateHas(t *testing.T) {
	for many := range 15 {
		checkGoodState(t, "sessions", numberedState(0, many), many <= 12)
		checkGoodState(t, "sessions beside all cells", numberedState(40, many), many <= 12)
	}
	checkGoodState(t, "many sessions", numberedState(0, 50), false)
}

// Any cell may be the one that is wrong.
func TestEveryCellOfAStateIsLookedAt(t *testing.T) {
	for many := 1; many <= 40; many += 13 {
		for place := range many {
			full := numberedState(many, 2)
			for key, good := range map[string]bool{"": false, numbered(place) + "a": true, numbered(place) + sized(13): true, numbered(place) + sized(14): false} {
				checkGoodState(t, fmt.Sprintf("Key %q in place %d", key, place), changedState(full, func(s *impl.KvState) { s.Cells[place].Key = key }), good)
			}
			for size, good := range map[int]bool{0: true, 1: true, 39: true, 40: true, 41: false} {
				checkGoodState(t, fmt.Sprint("a value of ", size, " in place ", place), changedState(full, func(s *impl.KvState) { s.Cells[place].Value = sized(size) }), good)
			}
			if place > 0 {
				checkGoodState(t, "two of one Key", changedState(full, func(s *impl.KvState) { s.Cells[place].Key = s.Cells[place-1].Key }), false)
				checkGoodState(t, "two turned round", changedState(full, func(s *impl.KvState) {
					s.Cells[place], s.Cells[place-1] = s.Cells[place-1], s.Cells[place]
				}), false)
			}
		}
	}
}

// Any session may be the one that is wrong.
func TestEverySessionOfAStateIsLookedAt(t *testing.T) {
	for many := 1; many <= 12; many++ {
		for place := range many {
			full := numberedState(2, many)
			change := func(what string, good bool, change func(x *impl.Session)) {
				t.Helper()
				checkGoodState(t, fmt.Sprint(what, " in place ", place, " of ", many), changedState(full, func(s *impl.KvState) { change(&s.Sessions[place]) }), good)
			}
			for last, good := range map[int]bool{-1: false, 0: false, 1: true, 999999: true, 1000000: true, 1000001: false} {
				change(fmt.Sprint("Last ", last), good, func(x *impl.Session) { x.Last = last })
			}
			for code, good := range map[int]bool{-1: false, 0: true, 1: true, 2: true, 3: true, 4: true, 5: false} {
				change(fmt.Sprint("Code ", code), good, func(x *impl.Session) { x.Reply.Code = code })
				for size, fits := range map[int]bool{0: true, 40: true, 41: false} {
					change(fmt.Sprint("Code ", code, " with a value of ", size), good && fits, func(x *impl.Session) { x.Reply = replied(code, sized(size)) })
				}
			}
			change("Id -1", false, func(x *impl.Session) { x.Id = -1 })
			change("Id 0", place == 0, func(x *impl.Session) { x.Id = 0 })
			change("Id 99", place == many-1, func(x *impl.Session) { x.Id = 99 })
			change("Id 100", false, func(x *impl.Session) { x.Id = 100 })
			change("an Id more", true, func(x *impl.Session) { x.Id++ })
			change("two Ids more", place == many-1, func(x *impl.Session) { x.Id += 2 })
			change("two Ids less", false, func(x *impl.Session) { x.Id -= 2 })
		}
	}
}

// What is wrong of the sessions is not hidden by the cells, nor the other way round.
func TestCellsAndSessionsAreBothGood(t *testing.T) {
	for first, a := range manyStates() {
		for second, b := range badStates() {
			what := first + ", " + second
			checkGoodState(t, what, impl.KvState{Cells: a.Cells, Sessions: b.Sessions}, isStateByHand(impl.KvState{Sessions: b.Sessions}))
			checkGoodState(t, what, impl.KvState{Cells: b.Cells, Sessions: a.Sessions}, isStateByHand(impl.KvState{Cells: b.Cells}))
		}
	}
}

// Sessions and cells know nothing of each other: any reply may be one that was told.
func TestRepliesOfAStateMayBeAny(t *testing.T) {
	for code := range 5 {
		for _, value := range []string{"", "what no cell has", sized(40)} {
			checkGoodState(t, "any reply", impl.KvState{Cells: fairState().Cells, Sessions: []impl.Session{heard(0, 1, code, value), heard(99, 1000000, code, value)}}, true)
		}
	}
	if impl.ReplyOk != 0 || impl.ReplyNone != 1 || impl.ReplyStale != 2 || impl.ReplyDiffers != 3 || impl.ReplyBad != 4 {
		t.Error("a code has another number")
	}
}
