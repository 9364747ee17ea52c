package script

import (
	"errors"
	"slices"
	"strings"

	"viaduct/api"
	"viaduct/scan"
)

// The first words of commands.
const (
	graphWord    = "graph"
	optionsWord  = "options"
	compileWord  = "compile"
	flipWord     = "flip"
	cutWord      = "cut"
	loadWord     = "load"
	dropWord     = "drop"
	liveWord     = "live"
	distanceWord = "distance"
	pathWord     = "path"
	tableWord    = "table"
	nearestWord  = "nearest"
)

// endWord is the first word of a block's last row.
const endWord = "end"

// command is one step of a script: a row, or the rows of a block.
type command []scan.Row

// cutRows: the commands that rows are.
func cutRows(rows []scan.Row) []command {
	var commands []command
	for len(rows) > 0 {
		count := rowsOfFirst(rows)
		commands = append(commands, rows[:count])
		rows = rows[count:]
	}
	return commands
}

// rowsOfFirst: how many of these rows are the first command.
func rowsOfFirst(rows []scan.Row) int {
	if !command(rows).isBlock() {
		return 1
	}
	end := slices.IndexFunc(rows, func(row scan.Row) bool { return row.Words[0] == endWord })
	if end < 0 {
		return len(rows)
	}
	return end + 1
}

// words: those of its first row.
func (c command) words() []string {
	return c[0].Words
}

func (c command) isBlock() bool {
	return c.words()[0] == graphWord
}

// text: a block as the text of a graph, each row a line: so the lines of an error are counted by its rows.
func (c command) text() string {
	var text strings.Builder
	for _, row := range c {
		text.WriteString(strings.Join(row.Words, " "))
		text.WriteByte('\n')
	}
	return text.String()
}

// checkCount asks whether there is such a command, and whether it has so many words.
func checkCount(words []string) error {
	count, err := wordsWanted(words[0])
	switch {
	case errors.Is(err, api.ErrWord):
		return err
	case len(words) < count:
		return api.ErrMissing
	case len(words) > count:
		return api.ErrExtra
	}
	return nil
}

// wordsWanted: how many words a command that is no block has, its first one too. Each kind has those of the kinds below it, and more.
func wordsWanted(name string) (int, error) {
	count := 1
	switch name {
	case optionsWord:
		count += 2
		fallthrough
	case distanceWord, pathWord, tableWord, nearestWord:
		count += 2
		fallthrough
	case flipWord, cutWord, dropWord:
		count++
		fallthrough
	case compileWord, loadWord, liveWord:
		return count, nil
	}
	return 0, api.ErrWord
}
