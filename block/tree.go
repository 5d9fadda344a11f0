package block

import "stet/api"

// tree: the tree of all blocks.
func (p *parser) tree() api.Tree {
	nodes := make([]api.Node, 0, len(p.all))
	for _, b := range p.all {
		// All lines of such a paragraph were definitions.
		if b.Kind == api.KPara && len(b.Pieces) == 0 {
			continue
		}
		b.number = len(nodes)
		nodes = append(nodes, b.Node)
		if b.parent == nil {
			continue
		}
		parent := &nodes[b.parent.number]
		if list := listAbout(b.parent); list != nil && len(parent.Kids) > 0 && b.ahead == list.quotes {
			nodes[list.number].Tight = false
		}
		parent.Kids = append(parent.Kids, b.number)
	}
	return api.Tree{Nodes: nodes}
}

// listAbout: the list that isn't Tight if kids of this block, but the first one, stand behind a blank line; nil: none.
func listAbout(parent *block) *block {
	switch parent.Kind {
	case api.KList:
		return parent
	case api.KItem:
		return parent.parent
	}
	return nil
}
