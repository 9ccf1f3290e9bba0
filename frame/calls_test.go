package frame

import (
	"yardarm/api"
	"yardarm/bits"
	"yardarm/blame"
	"yardarm/ceiling"
	"yardarm/depend"
	"yardarm/digit"
	"yardarm/dirty"
	"yardarm/format"
	"yardarm/graph"
	"yardarm/guard"
	"yardarm/history"
	"yardarm/index"
	"yardarm/infer"
	"yardarm/level"
	"yardarm/lex"
	"yardarm/line"
	"yardarm/match"
	"yardarm/mixing"
	"yardarm/names"
	"yardarm/order"
	"yardarm/path"
	"yardarm/print"
	"yardarm/proof"
	"yardarm/query"
	"yardarm/report"
	"yardarm/rules"
	"yardarm/rw"
	"yardarm/scc"
	"yardarm/session"
	"yardarm/topo"
	"yardarm/verdict"
	"yardarm/wr"
	"yardarm/ww"
)

// The calls that the chapters list: a signature that is another one does not build.

// Layer 1: digit.
var (
	_ func(n int64) string                = digit.Text
	_ func(s string) (int64, api.Errno)   = digit.Read
	_ func(s string) (string, string)     = digit.Head
	_ func(a, b int64) (int64, bool)      = digit.Add
	_ func(a, b int64) (int64, bool)      = digit.Mul
	_ func(l ...int64) (int64, api.Errno) = digit.Sum
)

// Layer 2: lex.
var (
	_ func(s string) bool                                = lex.Word
	_ func(s string, at int) (api.Token, int, api.Errno) = lex.Next
	_ func(s string) ([]api.Token, int, api.Errno)       = lex.All
	_ func(l ...api.Token) string                        = lex.Spell
)

// Layer 3: order.
var (
	_ func(l []int, compare func(a, b int) int) []int       = order.Sort[int]
	_ func(a, b []int, compare func(a, b int) int) []int    = order.Merge[int]
	_ func(l []int, ask func(x int) int) (int, bool)        = order.Find[int]
	_ func(l []int) []int                                   = order.Unique[int]
	_ func(l []int, compare func(a, b int) int) (int, bool) = order.Least[int]
	_ func(a, b api.Pair) int                               = order.Keys
)

// Layer 4: bits.
var (
	_ func(b api.Bits) api.Errno                    = bits.Check
	_ func(a, b api.Bits) bool                      = bits.Same
	_ func(l ...int) (api.Bits, api.Errno)          = bits.Of
	_ func(b api.Bits) []int                        = bits.List
	_ func(b api.Bits) int                          = bits.Count
	_ func(b api.Bits, n int) bool                  = bits.Has
	_ func(b api.Bits, from int) (int, bool)        = bits.Next
	_ func(b api.Bits, n int) (api.Bits, api.Errno) = bits.With
	_ func(b api.Bits, n int) api.Bits              = bits.Without
	_ func(l ...api.Bits) api.Bits                  = bits.Union
	_ func(a, b api.Bits) api.Bits                  = bits.Meet
	_ func(a, b api.Bits) api.Bits                  = bits.Minus
	_ func(a, b api.Bits) bool                      = bits.Within
)

// Layer 5: graph.
var (
	_ func(g api.Graph) api.Errno                                          = graph.Check
	_ func(a, b api.Graph) bool                                            = graph.Same
	_ func(nodes int, l []api.Edge) (api.Graph, api.Errno)                 = graph.Of
	_ func(g api.Graph, v int) ([]api.Edge, api.Errno)                     = graph.Out
	_ func(g api.Graph, v int) ([]api.Edge, api.Errno)                     = graph.In
	_ func(g api.Graph) ([]int, api.Errno)                                 = graph.Starts
	_ func(g api.Graph) (api.Graph, api.Errno)                             = graph.Reverse
	_ func(g api.Graph, keep func(e api.Edge) bool) (api.Graph, api.Errno) = graph.Filter
	_ func(g api.Graph, from, to int) ([]int, api.Errno)                   = graph.Kinds
)

// Layer 6: scc.
var (
	_ func(g api.Graph) ([]int, api.Errno)     = scc.Of
	_ func(g api.Graph) ([][]int, api.Errno)   = scc.Sets
	_ func(g api.Graph) (bool, api.Errno)      = scc.Cyclic
	_ func(g api.Graph) (api.Bits, api.Errno)  = scc.Round
	_ func(g api.Graph) (api.Graph, api.Errno) = scc.Inner
	_ func(g api.Graph) (api.Graph, api.Errno) = scc.Fold
)

// Layer 7: topo.
var (
	_ func(g api.Graph) ([]int, bool, api.Errno) = topo.Order
	_ func(g api.Graph) ([]int, api.Errno)       = topo.Left
	_ func(g api.Graph, l []int) bool            = topo.Right
	_ func(g api.Graph) ([]int, bool, api.Errno) = topo.Depth
)

// Layer 8: path.
var (
	_ func(g api.Graph, from int) ([]int, api.Errno)     = path.Far
	_ func(g api.Graph, from, to int) ([]int, api.Errno) = path.Shortest
	_ func(g api.Graph) ([]int, api.Errno)               = path.Cycle
	_ func(g api.Graph, v int) ([]int, api.Errno)        = path.Through
	_ func(g api.Graph, l []int, round bool) bool        = path.Is
)

// Layer 9: level.
var (
	_ func(l int) api.Errno                      = level.Check
	_ func(l int) (string, api.Errno)            = level.Text
	_ func(s string) (int, api.Errno)            = level.Read
	_ func(g int) (string, api.Errno)            = level.Words
	_ func(s string) (int, api.Errno)            = level.Guarantees
	_ func(n, l int) ([]int, api.Errno)          = level.Uniform
	_ func(a, b []int) (bool, api.Errno)         = level.Below
	_ func(a, b []int) ([]int, api.Errno)        = level.Join
	_ func(a, b []int) ([]int, api.Errno)        = level.Meet
	_ func(a []int, i, l int) ([]int, api.Errno) = level.With
)

// Layer 10: names.
var (
	_ func(s string) api.Errno                                = names.Check
	_ func(t api.Table) api.Errno                             = names.Fine
	_ func(t api.Table, s string) (int, bool)                 = names.Find
	_ func(t api.Table, n int) (string, api.Errno)            = names.Name
	_ func(t api.Table, s string) (api.Table, int, api.Errno) = names.Put
	_ func(l ...string) (api.Table, []int, api.Errno)         = names.All
	_ func(a, b api.Table) ([]int, api.Errno)                 = names.Move
)

// Layer 11: history.
var (
	_ func(h api.History) api.Errno                 = history.Check
	_ func(a, b api.History) bool                   = history.Same
	_ func(a, b api.Event) bool                     = history.SameEvent
	_ func(h api.History) (api.History, api.Errno)  = history.Number
	_ func(h api.History) (api.History, api.Errno)  = history.Complete
	_ func(h api.History, t int) ([]int, api.Errno) = history.Of
)

// Layer 12: line.
var (
	_ func(l api.Line) api.Errno                        = line.Check
	_ func(a, b api.Line) bool                          = line.Same
	_ func(l api.Line) (string, api.Errno)              = line.Text
	_ func(s string, at int) (api.Line, int, api.Errno) = line.Read
)

// Layer 13: format.
var (
	_ func(text string) ([]api.Line, []int, int, api.Errno) = format.Lines
	_ func(l []api.Line) (api.History, int, api.Errno)      = format.Of
	_ func(text string) (api.History, int, api.Errno)       = format.Read
)

// Layer 14: print.
var (
	_ func(h api.History) ([]api.Line, api.Errno)  = print.Lines
	_ func(h api.History) (string, api.Errno)      = print.Text
	_ func(h api.History) bool                     = print.Counted
	_ func(h api.History) (api.History, api.Errno) = print.Count
)

// Layer 15: rules.
var (
	_ func(h api.History) (api.Broken, bool, api.Errno)    = rules.First
	_ func(h api.History, rule int) (int, bool, api.Errno) = rules.Place
	_ func(h api.History) bool                             = rules.Sound
	_ func(h api.History, object int) ([]int, api.Errno)   = rules.Writers
)

// Layer 16: index.
var (
	_ func(h api.History) api.Errno                               = index.Check
	_ func(h api.History) ([]int, api.Errno)                      = index.Committed
	_ func(h api.History, t int) (int, int, api.Errno)            = index.Begun
	_ func(h api.History, session int) ([]int, api.Errno)         = index.Line
	_ func(h api.History, object int) ([]int, api.Errno)          = index.Installed
	_ func(h api.History, t, object int) (api.Version, int, bool) = index.Final
	_ func(h api.History, object int, v api.Version) (int, bool)  = index.Rank
	_ func(h api.History, object, rank int) (int, bool)           = index.Next
	_ func(h api.History, at int) ([]api.Seen, api.Errno)         = index.Sights
)

// Layer 17: match.
var (
	_ func(h api.History, predicate, object, rank int) (bool, api.Errno) = match.Matches
	_ func(h api.History, predicate, object int) ([]int, api.Errno)      = match.Changes
	_ func(h api.History, event int) ([]api.Seen, api.Errno)             = match.Set
	_ func(h api.History, event int) ([]api.Seen, api.Errno)             = match.Seen
)

// Layer 18: ww.
var (
	_ func(a, b api.Conflict) int                                 = ww.Compare
	_ func(h api.History) ([]api.Conflict, api.Errno)             = ww.All
	_ func(h api.History, object int) ([]api.Conflict, api.Errno) = ww.Of
	_ func(h api.History, c api.Conflict) bool                    = ww.Justified
	_ func(h api.History, from, to int) ([]int, api.Errno)        = ww.Chain
)

// Layer 19: wr.
var (
	_ func(h api.History) ([]api.Conflict, api.Errno) = wr.Item
	_ func(h api.History) ([]api.Conflict, api.Errno) = wr.Scans
	_ func(h api.History, c api.Conflict) bool        = wr.Justified
)

// Layer 20: rw.
var (
	_ func(h api.History) ([]api.Conflict, api.Errno) = rw.Item
	_ func(h api.History) ([]api.Conflict, api.Errno) = rw.Scans
	_ func(h api.History, c api.Conflict) bool        = rw.Justified
	_ func(h api.History, at int) ([]int, api.Errno)  = rw.Over
)

// Layer 21: depend.
var (
	_ func(h api.History) ([]api.Conflict, api.Errno)           = depend.All
	_ func(h api.History) (api.Graph, api.Errno)                = depend.Graph
	_ func(h api.History, e api.Edge) (api.Conflict, api.Errno) = depend.Find
	_ func(h api.History, c api.Conflict) bool                  = depend.Justified
	_ func(h api.History, from, to int) ([]int, api.Errno)      = depend.Between
)

// Layer 22: mixing.
var (
	_ func(h api.History) ([]int, api.Errno)                     = mixing.Declared
	_ func(h api.History, t, level int) (api.History, api.Errno) = mixing.Declare
	_ func(kind int) (int, int, api.Errno)                       = mixing.Needs
	_ func(c api.Conflict, a []int) bool                         = mixing.Obliged
	_ func(h api.History, a []int) ([]api.Conflict, api.Errno)   = mixing.Conflicts
	_ func(h api.History, a []int) (api.Graph, api.Errno)        = mixing.Graph
)

// Layer 23: dirty.
var (
	_ func(h api.History, a []int) ([]api.Dirty, api.Errno)     = dirty.All
	_ func(h api.History, a []int) (api.Dirty, bool, api.Errno) = dirty.First
	_ func(h api.History, a []int, d api.Dirty) bool            = dirty.Is
)

// Layer 24: verdict.
var (
	_ func(a, b api.Proof) bool                           = verdict.Same
	_ func(h api.History, a []int) (api.Proof, api.Errno) = verdict.Judge
	_ func(h api.History, a []int) (bool, api.Errno)      = verdict.Right
	_ func(h api.History) (api.Proof, api.Errno)          = verdict.Own
)

// Layer 25: proof.
var (
	_ func(h api.History, a []int, p api.Proof) (bool, api.Errno)  = proof.Check
	_ func(p, q api.Proof) bool                                    = proof.Same
	_ func(h api.History, a []int, from int) ([]int, api.Errno)    = proof.Steps
	_ func(h api.History, a []int, p api.Proof) ([]int, api.Errno) = proof.Core
)

// Layer 26: session.
var (
	_ func(h api.History, session, guard int) (api.Breach, bool, api.Errno) = session.First
	_ func(h api.History, session int, b api.Breach) bool                   = session.Is
	_ func(h api.History, session int) (int, api.Errno)                     = session.Has
	_ func(h api.History, session, guard int) ([][2]int, api.Errno)         = session.Pairs
)

// Layer 27: guard.
var (
	_ func(h api.History) ([]api.Guarded, api.Errno)                  = guard.Table
	_ func(h api.History) (bool, api.Errno)                           = guard.Right
	_ func(h api.History) ([]api.Breach, []int, api.Errno)            = guard.Lacks
	_ func(h api.History, session, bits int) (api.History, api.Errno) = guard.With
	_ func(h api.History) (api.History, api.Errno)                    = guard.Strongest
)

// Layer 28: ceiling.
var (
	_ func(h api.History) (bool, api.Errno)                = ceiling.Floor
	_ func(h api.History, t int) (int, api.Errno)          = ceiling.Of
	_ func(h api.History) ([]int, api.Errno)               = ceiling.All
	_ func(h api.History) (int, api.Errno)                 = ceiling.Uniform
	_ func(h api.History, a []int, t int) (int, api.Errno) = ceiling.Above
)

// Layer 29: infer.
var (
	_ func(h api.History, priority []int) ([]int, bool, api.Errno) = infer.By
	_ func(h api.History) ([]int, bool, api.Errno)                 = infer.Ceilings
	_ func(h api.History) ([]int, bool, api.Errno)                 = infer.Greatest
	_ func(h api.History, a []int) (bool, api.Errno)               = infer.Maximal
)

// Layer 30: blame.
var (
	_ func(h api.History, p api.Proof) ([]int, api.Errno)    = blame.Of
	_ func(h api.History, a []int) ([]int, api.Errno)        = blame.Core
	_ func(h api.History, a, order []int) ([]int, api.Errno) = blame.Weakest
	_ func(a []int) []int                                    = blame.Blamed
)

// Layer 31: query.
var (
	_ func(q api.Query) api.Errno                  = query.Check
	_ func(a, b api.Query) bool                    = query.Same
	_ func(l ...api.Query) (string, api.Errno)     = query.Text
	_ func(s string) ([]api.Query, int, api.Errno) = query.Read
)

// Layer 32: report.
var (
	_ func(text string) (*report.Checker, api.Failing)   = report.Load
	_ func(a, b api.Reply) bool                          = report.Same
	_ func(c *report.Checker) api.History                = (*report.Checker).Now
	_ func(c *report.Checker, q api.Query) api.Reply     = (*report.Checker).Do
	_ func(c *report.Checker, l []api.Query) []api.Reply = (*report.Checker).Run
	_ func(c *report.Checker, t api.Reply) string        = (*report.Checker).Say
	_ func(text, asks string) string                     = report.Report
)
