package witness

// entry is a node in the queue, at the distance that it had when it came in.
type entry struct {
	dist uint64
	node int
}

// queue is one of container/heap: by distances, alike ones by nodes.
type queue []entry

func (q queue) Len() int { return len(q) }

func (q queue) Less(i, j int) bool {
	return q[i].dist < q[j].dist || q[i].dist == q[j].dist && q[i].node < q[j].node
}

func (q queue) Swap(i, j int) { q[i], q[j] = q[j], q[i] }

func (q *queue) Push(x any) { *q = append(*q, x.(entry)) }

func (q *queue) Pop() any {
	last := len(*q) - 1
	x := (*q)[last]
	*q = (*q)[:last]
	return x
}
