package window

// number is one that slots, classes, pages and places are told by.
type number int

// below tells whether it is one of those from 0 on that are below a bound.
func (n number) below(bound int) bool { return n >= 0 && int(n) < bound }

// in tells the first page of the run of that number.
func (n number) in(r row) int { return sum(r.first, int(n)*r.step) }

func sum(numbers ...int) int {
	all := 0
	for _, n := range numbers {
		all += n
	}
	return all
}
