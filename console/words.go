package console

import (
	"seepage/api"
	"seepage/config"
	"seepage/engine"
	"seepage/image"
	"seepage/journal"
	"seepage/judge"
)

// words returns what the words do that stand alone.
func (c *Console) words() map[string]func() ([]string, api.Errno) {
	return map[string]func() ([]string, api.Errno){
		"help":    c.help,
		"new":     c.begin,
		"image":   c.image,
		"journal": c.journal,
		"restart": c.restart,
		"compact": c.compact,
		"audit":   c.audit,
		"done":    c.done,
		"quit":    c.quit,
	}
}

// wordsWithText returns what the words do that are followed by a space and a text.
func (c *Console) wordsWithText() map[string]func(text string) ([]string, api.Errno) {
	return map[string]func(text string) ([]string, api.Errno){
		"new":    c.beginWith,
		"load":   c.load,
		"replay": c.replay,
	}
}

func (c *Console) help() ([]string, api.Errno) {
	return Help(), api.OK
}

func (c *Console) begin() ([]string, api.Errno) {
	return c.start(config.Default())
}

func (c *Console) beginWith(text string) ([]string, api.Errno) {
	if text == "" {
		return nil, api.ErrForm
	}
	settings, e := config.Parse(text)
	if e != api.OK {
		return nil, e
	}
	return c.start(settings)
}

// start makes a new engine with a valid configuration.
func (c *Console) start(settings api.Config) ([]string, api.Errno) {
	c.engine, _ = engine.New(settings)
	c.saved, _ = image.Save(c.engine.Window())
	c.log = nil
	return says("ok")
}

func (c *Console) load(text string) ([]string, api.Errno) {
	b, ok := bytesOf(text)
	if !ok {
		return nil, api.ErrForm
	}
	w, e := image.Load(b)
	if e != api.OK {
		return nil, e
	}
	c.engine, _ = engine.On(w)
	c.saved, c.log = b, nil
	return says("ok")
}

func (c *Console) image() ([]string, api.Errno) {
	if c.engine == nil {
		return nil, api.ErrNil
	}
	b, _ := image.Save(c.engine.Window())
	return says(textOf(b))
}

func (c *Console) journal() ([]string, api.Errno) {
	if c.engine == nil {
		return nil, api.ErrNil
	}
	return says(textOf(c.log))
}

func (c *Console) replay(text string) ([]string, api.Errno) {
	b, ok := bytesOf(text)
	if !ok {
		return nil, api.ErrForm
	}
	if c.engine == nil {
		return nil, api.ErrNil
	}
	l, good := journal.Read(b)
	for _, cmd := range l {
		c.execute(cmd)
	}
	return says("ok", int64(len(l)), int64(good))
}

func (c *Console) restart() ([]string, api.Errno) {
	if c.engine == nil {
		return nil, api.ErrNil
	}
	restarted, n, e := journal.Recover(c.saved, c.log)
	if e != api.OK {
		return nil, e
	}
	c.engine = restarted
	return says("ok", int64(n))
}

func (c *Console) compact() ([]string, api.Errno) {
	if c.engine == nil {
		return nil, api.ErrNil
	}
	c.pack()
	return says("ok")
}

func (c *Console) audit() ([]string, api.Errno) {
	if c.engine == nil {
		return nil, api.ErrNil
	}
	flaws := judge.Audit(c.engine)
	if len(flaws) == 0 {
		return says("ok")
	}
	var answer []string
	for _, flaw := range flaws {
		answer = append(answer, sentence("flaw", int64(flaw.Kind), int64(flaw.At)))
	}
	return answer, api.OK
}

func (c *Console) done() ([]string, api.Errno) {
	if c.engine == nil {
		return nil, api.ErrNil
	}
	cmds, errs := c.engine.Done()
	return says("done", int64(cmds), int64(errs))
}

func (c *Console) quit() ([]string, api.Errno) {
	c.engine, c.saved, c.log = nil, nil, nil
	return says("ok")
}

// execute executes a valid command with the engine, and appends it to the journal if
// it can change the state.
func (c *Console) execute(cmd api.Cmd) api.Reply {
	r := c.engine.Do(cmd)
	if journal.Changes(cmd) {
		c.log, _ = journal.Append(c.log, cmd)
	}
	if len(c.log) > mostJournal {
		c.pack()
	}
	return r
}

// pack compacts the image and the journal.
func (c *Console) pack() {
	c.saved, c.log, _ = journal.Compact(c.saved, c.log)
}
