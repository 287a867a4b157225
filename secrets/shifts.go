package secrets

import (
	"math"
	"slices"

	"handshape/api"
)

// shift is a sheet with a mask in which the amount of one cell moves as it is wanted, and others make up for it, such that it agrees with the sheet of which it is made. Its amounts are memory of its own.
type shift struct {
	masked
	row, column int
}

// lines is how many numbers there are for rows and columns together: the rows have the first ones, and the columns those from MaxLines on.
const lines = api.MaxLines + api.MaxColumns

// shift returns a shift for a cell, in which nothing has moved.
func (m masked) shift(row, column int) shift {
	amounts := make([][]int, len(m.Amounts))
	for i, l := range m.Amounts {
		amounts[i] = slices.Clone(l)
	}
	m.Amounts = amounts
	return shift{masked: m, row: row, column: column}
}

// span returns the least and the greatest number that can be an amount.
func (m masked) span(row, column int) api.Span {
	s := m.shift(row, column)
	high := s.toward(math.MaxInt)
	return api.Span{Low: s.toward(0), High: high}
}

// toward moves the amount of the cell as near to a goal as can be, which is not below 0, and returns where it is then.
func (s shift) toward(goal int) int {
	amount := s.Amounts[s.row][s.column]
	if !s.isOut(s.row, s.column) {
		return amount
	}
	row, column := s.row, api.MaxLines+s.column
	if goal > amount {
		amount += s.flow(row, column, goal-amount)
	} else {
		amount -= s.flow(column, row, amount-goal)
	}
	s.Amounts[s.row][s.column] = amount
	return amount
}

// flow moves amounts other than that of the cell, so that its row and its column come to differ from their sums by most, or by as much as can be, and returns by how much they do. The cell makes up for it.
func (s shift) flow(from, to, most int) int {
	moved := 0
	for moved < most {
		path := s.path(from, to)
		if path == nil {
			break
		}
		moved += s.move(path, most-moved)
	}
	return moved
}

// room returns by how much an amount can move on the way from one line to another: from a row to a column it becomes less, from a column to a row it becomes more.
func (s shift) room(from, to int) int {
	row, column := min(from, to), max(from, to)-api.MaxLines
	isCell := row == s.row && column == s.column
	if isCell || !s.hasCell(row, column) || !s.isOut(row, column) {
		return 0
	}
	if from == row {
		return s.Amounts[row][column]
	}
	return math.MaxInt
}

// path returns a shortest way from one line to another on which all amounts can move; nil if there is none. With shortest ways few of them are enough, whatever the amounts are.
func (s shift) path(from, to int) []int {
	var before [lines]int
	seen := 1 << from
	reached := []int{from}
	for len(reached) > 0 {
		line := reached[0]
		reached = reached[1:]
		for next := range lines {
			if !isIn(seen, next) && s.room(line, next) > 0 {
				seen |= 1 << next
				before[next] = line
				reached = append(reached, next)
			}
		}
	}
	if !isIn(seen, to) {
		return nil
	}
	path := []int{to}
	for line := to; line != from; {
		line = before[line]
		path = append(path, line)
	}
	slices.Reverse(path)
	return path
}

// move moves all amounts on a way by most, or by as much as can be, and returns by how much.
func (s shift) move(path []int, most int) int {
	for i, line := range path[1:] {
		most = min(most, s.room(path[i], line))
	}
	for i, line := range path[1:] {
		if path[i] < line {
			s.Amounts[path[i]][line-api.MaxLines] -= most
		} else {
			s.Amounts[line][path[i]-api.MaxLines] += most
		}
	}
	return most
}
