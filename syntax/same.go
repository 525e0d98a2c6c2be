package syntax

import (
	"slices"

	"greenbelt/api"
)

// Same reports whether two plans are equal.
func Same(a, b api.Plan) bool {
	return slices.EqualFunc(a.Defs, b.Defs, sameDef) && slices.EqualFunc(a.Tables, b.Tables, sameTable) &&
		slices.EqualFunc(a.Zones, b.Zones, sameZone) && slices.EqualFunc(a.Rules, b.Rules, sameRule) &&
		slices.EqualFunc(a.Caps, b.Caps, sameCap) && slices.EqualFunc(a.Views, b.Views, sameView) &&
		slices.Equal(a.Sun, b.Sun) && a.Hours == b.Hours
}

func sameDef(a, b api.Def) bool { return a.Name == b.Name && sameExpr(a.Body, b.Body) }

func sameTable(a, b api.Table) bool {
	return a.Name == b.Name && slices.Equal(a.Rows, b.Rows) && a.Else == b.Else
}

func sameZone(a, b api.Zone) bool {
	return a.Name == b.Name && a.Overlay == b.Overlay && slices.Equal(a.Corners, b.Corners)
}

func sameRule(a, b api.Rule) bool {
	return a.Name == b.Name && slices.Equal(a.Zones, b.Zones) && slices.Equal(a.Except, b.Except) &&
		a.From == b.From && a.Until == b.Until && a.Grace == b.Grace && a.Vary == b.Vary && a.Kind == b.Kind &&
		sameExpr(a.Test, b.Test) && a.Plane == b.Plane && a.Uses == b.Uses && a.Other == b.Other && a.N == b.N
}

func sameCap(a, b api.Cap) bool {
	return a.Name == b.Name && a.Load == b.Load && a.Limit == b.Limit && slices.Equal(a.Corners, b.Corners)
}

func sameView(a, b api.View) bool {
	return a.Name == b.Name && a.Eye == b.Eye && a.Least == b.Least && slices.Equal(a.Targets, b.Targets)
}

func sameExpr(a, b api.Expr) bool {
	return a.Op == b.Op && a.N == b.N && a.S == b.S && a.Key == b.Key && slices.EqualFunc(a.Args, b.Args, sameExpr)
}
