package inline

import "stet/api"

// rest is what is still to be numbered of a node's kids.
type rest struct {
	kids   []part
	parent int
}

// numbered: a part with all that stands in it as a tree, each node ahead of its kids.
func numbered(root part) api.Tree {
	nodes := []api.Node{root.Node}
	// No call of itself: parts may stand in one another deeper than calls should go.
	open := []rest{{root.kids, 0}}
	for len(open) > 0 {
		last := &open[len(open)-1]
		if len(last.kids) == 0 {
			open = open[:len(open)-1]
			continue
		}
		kid, number := last.kids[0], len(nodes)
		last.kids = last.kids[1:]
		parent := &nodes[last.parent]
		parent.Kids = append(parent.Kids, number)
		nodes = append(nodes, kid.Node)
		open = append(open, rest{kid.kids, number})
	}
	return api.Tree{Nodes: nodes}
}
