package table

import "viaduct/api"

// buckets: for each rank that stands in a list the places where it does.
func buckets(ranks []int) map[int][]int {
	places := map[int][]int{}
	for i, rank := range ranks {
		places[rank] = append(places[rank], i)
	}
	return places
}

// fill: the table of rows and columns, told by ranks. A rank needs one sweep, however often it stands there, and of rows and columns those are swept from that are fewer: so of a table that holds MaxTable numbers at most its square root.
func fill(h api.Hier, rows, columns []int) [][]uint64 {
	table := make([][]uint64, len(rows))
	for i := range table {
		table[i] = make([]uint64, len(columns))
	}
	from, to := buckets(rows), buckets(columns)
	if len(from) < len(to) {
		sweepAll(ups(h), downs(h), from, to, func(i, j int, dist uint64) { table[i][j] = dist })
	} else {
		sweepAll(downs(h), ups(h), to, from, func(j, i int, dist uint64) { table[i][j] = dist })
	}
	return table
}

// sweepAll sweeps from each rank of some buckets, and puts what it finds at the ranks of the others to all their places.
func sweepAll(ahead, back half, starts, ends map[int][]int, put func(i, j int, dist uint64)) {
	for start, places := range starts {
		dist := ahead.sweep(back, start)
		for end, others := range ends {
			for _, i := range places {
				for _, j := range others {
					put(i, j, dist[end])
				}
			}
		}
	}
}
