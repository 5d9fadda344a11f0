package tree

import "stet/api"

const (
	mostNumber = 999_999_999 // of a list's first item
	leastFence = 3           // marks of code's fence
)

// fits: whether a node has what its kind may have, whatever stands around it.
func fits(n api.Node) bool {
	return 0 <= n.From && n.From <= n.To && levelFits(n) && textFits(n) && linkFits(n) && titleFits(n) && tightFits(n) &&
		len(n.Pieces) == 0 && (n.Kind != api.KList || len(n.Kids) > 0)
}

// fitsIn: whether a node may be a kid of this parent.
func fitsIn(parent, kid api.Node) bool {
	return parent.From <= kid.From && kid.To <= parent.To && holds(parent.Kind, kid.Kind)
}

// holds: whether nodes of a kind may have kids of another.
func holds(parent, kid int) bool {
	switch parent {
	case api.KDoc, api.KQuote, api.KItem:
		return api.KQuote <= kid && kid <= api.KHtml && kid != api.KItem
	case api.KList:
		return kid == api.KItem
	case api.KPara, api.KHead, api.KEm, api.KStrong, api.KLink, api.KImage:
		return api.KText <= kid && kid <= api.KRaw
	}
	return false
}

func levelFits(n api.Node) bool {
	switch n.Kind {
	case api.KHead:
		return 1 <= n.Level && n.Level <= 6
	case api.KList:
		return -1 <= n.Level && n.Level <= mostNumber
	case api.KCode:
		return n.Level == 0 || n.Level >= leastFence
	case api.KLink:
		return 1 <= n.Level && n.Level <= 3
	case api.KImage:
		return 1 <= n.Level && n.Level <= 2
	}
	return n.Level == 0
}

func textFits(n api.Node) bool {
	switch n.Kind {
	case api.KList:
		return signFits(n.Text, n.Level == -1)
	case api.KText:
		return n.Text != ""
	case api.KCode, api.KHtml, api.KSpan, api.KRaw:
		return true
	}
	return n.Text == ""
}

// signFits: whether it is the mark of a list, with bullets or with numbers.
func signFits(sign string, bullets bool) bool {
	switch sign {
	case "-", "+", "*":
		return bullets
	case ".", ")":
		return !bullets
	}
	return false
}

func linkFits(n api.Node) bool {
	switch n.Kind {
	case api.KCode, api.KLink, api.KImage:
		return true
	}
	return n.Link == ""
}

func titleFits(n api.Node) bool {
	return n.Title == "" || n.Kind == api.KLink || n.Kind == api.KImage
}

func tightFits(n api.Node) bool {
	return !n.Tight || n.Kind == api.KList || n.Kind == api.KHead
}
