package job

import (
	"strings"

	"outrider/api"
)

const (
	configBlanks = " \t\n\r"
	forceWord    = "force"
)

// setting: a number of a config, and its word.
type setting struct {
	word string
	n    *int
}

// settings: in the order of a config's text.
func settings(c *api.Config) []setting {
	return []setting{
		{"workers", &c.Workers}, {"window", &c.Window}, {"chunk", &c.Chunk},
		{"reads", &c.Reads}, {"writes", &c.Writes}, {"outs", &c.Outs},
		{"arena", &c.Arena}, {"edges", &c.Edges}, {"retry", &c.Retry},
	}
}

// Right: may a config be? The first of its faults.
func Right(c api.Config) api.Errno {
	switch {
	case !within(c.Workers, 1, api.MaxWorkers):
		return api.ErrWorkers
	case c.Policy < api.Static || c.Policy > api.Guided:
		return api.ErrPolicy
	case !within(c.Chunk, 1, api.MaxTasks):
		return api.ErrSize
	case !rightRoom(c) || !within(c.Retry, 0, api.MaxRetry):
		return api.ErrConfig
	}
	return api.OK
}

// rightRoom: may there be so much room for what is under way?
func rightRoom(c api.Config) bool {
	return within(c.Window, 1, api.MaxWindow) &&
		within(c.Reads, 1, api.MaxLog) && within(c.Writes, 1, api.MaxLog) && within(c.Outs, 1, api.MaxLog) &&
		within(c.Arena, 1, api.MaxArena) && within(c.Edges, 1, api.MaxEdges)
}

// ConfigText: the text of a config that may be: its policy, each of its numbers behind its word, and the word force, if it is.
func ConfigText(c api.Config) (string, api.Errno) {
	if e := Right(c); e != api.OK {
		return "", e
	}
	said := []string{policies()[c.Policy-api.Static]}
	for _, s := range settings(&c) {
		said = append(said, s.word, count(*s.n))
	}
	if c.Force {
		said = append(said, forceWord)
	}
	return strings.Join(said, blank), api.OK
}

// ParseConfig: the config of a text.
func ParseConfig(s string) (c api.Config, e api.Errno) {
	defer func() {
		if f, is := recover().(fault); is {
			c, e = api.Config{}, f.no
		}
	}()
	if len(s) > api.MaxText {
		giveUp(0, api.ErrLong)
	}
	c = asTold(pieces(s, configBlanks))
	if no := Right(c); no != api.OK {
		giveUp(0, no)
	}
	return c, api.OK
}

// asTold: the config that pieces tell, whether or not it may be.
func asTold(said []string) api.Config {
	take := func(k kind) int64 {
		if len(said) == 0 {
			giveUp(0, api.ErrForm)
		}
		n, is := k(said[0])
		if !is {
			giveUp(0, api.ErrForm)
		}
		said = said[1:]
		return n
	}
	c := api.Config{Policy: api.Policy(take(oneOf(policies())))}
	for _, s := range settings(&c) {
		take(exactly(s.word))
		*s.n = int(take(aCount))
	}
	if len(said) > 0 {
		take(exactly(forceWord))
		c.Force = true
	}
	if len(said) > 0 {
		giveUp(0, api.ErrForm)
	}
	return c
}
