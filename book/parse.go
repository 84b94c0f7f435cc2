package book

import (
	"strings"

	"timeball/api"
	"timeball/clock"
	"timeball/rule"
)

// The states of the parser: what the lines so far end with.
const (
	inRules   = iota // rules, or nothing
	inZone           // a zone line, or an era with an Until
	afterZone        // a complete zone
	inLinks          // links
)

// parser adds lines to the book that it embeds. The words that get into the
// book are copied, since a part of the text would keep all of it in memory.
type parser struct {
	api.Book
	state int
}

// Parse returns the book that Text formats as s, or the number of the
// erroneous line.
func Parse(s string) (api.Book, int, api.Errno) {
	if len(s) > api.MaxText {
		return api.Book{}, 0, api.ErrLarge
	}
	if s == "" {
		return api.Book{}, 0, api.OK
	}
	var p parser
	lines := strings.Split(s, "\n")
	for i, line := range lines {
		if !p.addLine(line) {
			return api.Book{}, i + 1, api.ErrSyntax
		}
	}
	if p.state == inZone {
		return api.Book{}, len(lines) + 1, api.ErrSyntax
	}
	if err := Check(p.Book); err != api.OK {
		return api.Book{}, 0, err
	}
	return p.Book, 0, api.OK
}

// addLine adds a line, if it has one of the forms and is allowed here, and
// reports whether it is so.
func (p *parser) addLine(line string) bool {
	// One word too many is enough to reject a line, however long it is.
	words := strings.SplitN(line, " ", wordsOfEra+1)
	switch words[0] {
	case ruleWord:
		return p.addRule(line)
	case zoneWord:
		return p.addZone(words)
	case eraWord:
		return p.addEra(words)
	case linkWord:
		return p.addLink(words)
	}
	return false
}

func (p *parser) addRule(line string) bool {
	r, err := rule.Parse(line)
	if err != api.OK || p.state != inRules {
		return false
	}
	p.Rules = append(p.Rules, r)
	return true
}

func (p *parser) addZone(words []string) bool {
	if len(words) != wordsOfZone || p.state != inRules && p.state != afterZone {
		return false
	}
	p.Zones = append(p.Zones, api.Zone{Name: strings.Clone(words[1])})
	p.state = inZone
	return true
}

func (p *parser) addEra(words []string) bool {
	isLast := len(words) == wordsOfLastEra
	if !isLast && len(words) != wordsOfEra || p.state != inZone {
		return false
	}
	era, ok := readEra(words)
	if !ok {
		return false
	}
	zone := &p.Zones[len(p.Zones)-1]
	zone.Eras = append(zone.Eras, era)
	if isLast {
		p.state = afterZone
	}
	return true
}

func (p *parser) addLink(words []string) bool {
	if len(words) != wordsOfLink || p.state == inZone {
		return false
	}
	p.Links = append(p.Links, api.Link{Name: strings.Clone(words[1]), To: strings.Clone(words[2])})
	p.state = inLinks
	return true
}

// readEra returns the era with these words, and whether all of them can be
// read.
func readEra(words []string) (api.Era, bool) {
	good := true
	number := func(n int, err api.Errno) int {
		good = good && err == api.OK
		return n
	}
	era := api.Era{Offset: number(clock.ReadSpan(words[1])), Format: strings.Clone(words[3])}
	if span, isConstant := strings.CutPrefix(words[2], constantPrefix); isConstant {
		era.Save = number(clock.ReadSpan(span))
	} else {
		era.Rules = strings.Clone(words[2])
		good = good && rule.IsName(era.Rules)
	}
	if len(words) == wordsOfEra {
		era.Until = number(clock.ReadStamp(words[4]))
	}
	return era, good
}
