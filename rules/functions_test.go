package rules

import (
	"tracebook/align"
	"tracebook/anomaly"
	"tracebook/audit"
	"tracebook/bound"
	"tracebook/causal"
	"tracebook/chrome"
	"tracebook/clock"
	"tracebook/codec"
	"tracebook/column"
	"tracebook/counter"
	"tracebook/critical"
	"tracebook/delta"
	"tracebook/disk"
	"tracebook/drain"
	"tracebook/eval"
	"tracebook/event"
	"tracebook/exec"
	"tracebook/explain"
	"tracebook/file"
	"tracebook/flame"
	"tracebook/flow"
	"tracebook/folded"
	"tracebook/format"
	"tracebook/frac"
	"tracebook/ftrace"
	"tracebook/heap"
	"tracebook/heapdump"
	"tracebook/intern"
	"tracebook/interval"
	"tracebook/itree"
	"tracebook/json"
	"tracebook/latency"
	"tracebook/live"
	"tracebook/log"
	"tracebook/match"
	"tracebook/memory"
	"tracebook/naive"
	"tracebook/num"
	"tracebook/order"
	"tracebook/packet"
	"tracebook/parse"
	"tracebook/plan"
	"tracebook/producer"
	"tracebook/record"
	"tracebook/redact"
	"tracebook/ring"
	"tracebook/sample"
	"tracebook/script"
	"tracebook/session"
	"tracebook/slice"
	"tracebook/spans"
	"tracebook/state"
	"tracebook/symbol"
	"tracebook/syntax"
	"tracebook/table"
	"tracebook/temporal"
	"tracebook/trace"
	"tracebook/typing"
	"tracebook/wait"
)

// functions returns all functions that the chapters list.
func functions() map[string]any {
	return map[string]any{
		"align.Raw":          align.Raw,
		"align.Tight":        align.Tight,
		"align.Solid":        align.Solid,
		"anomaly.Of":         anomaly.Of,
		"anomaly.Times":      anomaly.Times,
		"anomaly.Usual":      anomaly.Usual,
		"audit.Account":      audit.Account,
		"audit.Faithful":     audit.Faithful,
		"audit.Ordered":      audit.Ordered,
		"audit.Views":        audit.Views,
		"audit.Sums":         audit.Sums,
		"audit.File":         audit.File,
		"bound.Of":           bound.Of,
		"bound.Many":         bound.Many,
		"bound.Consistent":   bound.Consistent,
		"causal.Edges":       causal.Edges,
		"causal.Check":       causal.Check,
		"causal.Before":      causal.Before,
		"causal.Vector":      causal.Vector,
		"chrome.Import":      chrome.Import,
		"chrome.Export":      chrome.Export,
		"chrome.Event":       chrome.Event,
		"clock.Check":        clock.Check,
		"clock.Ppm":          clock.Ppm,
		"clock.Linked":       clock.Linked,
		"clock.Points":       clock.Points,
		"codec.PutInt":       codec.PutInt,
		"codec.Int":          codec.Int,
		"codec.PutText":      codec.PutText,
		"codec.Text":         codec.Text,
		"codec.Sum":          codec.Sum,
		"column.Encode":      column.Encode,
		"column.Decode":      column.Decode,
		"column.Coding":      column.Coding,
		"column.Value":       column.Value,
		"counter.Of":         counter.Of,
		"counter.Check":      counter.Check,
		"counter.At":         counter.At,
		"counter.Integral":   counter.Integral,
		"counter.Peak":       counter.Peak,
		"critical.Path":      critical.Path,
		"critical.Check":     critical.Check,
		"critical.Total":     critical.Total,
		"critical.Shares":    critical.Shares,
		"delta.Diff":         delta.Diff,
		"delta.Apply":        delta.Apply,
		"delta.Linear":       delta.Linear,
		"delta.Grow":         delta.Grow,
		"disk.New":           disk.New,
		"disk.Check":         disk.Check,
		"disk.Append":        disk.Append,
		"disk.Sync":          disk.Sync,
		"disk.Truncate":      disk.Truncate,
		"disk.Arm":           disk.Arm,
		"disk.Crash":         disk.Crash,
		"drain.New":          drain.New,
		"drain.Check":        drain.Check,
		"drain.Collect":      drain.Collect,
		"drain.Flush":        drain.Flush,
		"drain.Expect":       drain.Expect,
		"eval.Expr":          eval.Expr,
		"eval.Cond":          eval.Cond,
		"eval.Agg":           eval.Agg,
		"eval.Fold":          eval.Fold,
		"event.Check":        event.Check,
		"event.Same":         event.Same,
		"event.CheckAll":     event.CheckAll,
		"event.Text":         event.Text,
		"event.Parse":        event.Parse,
		"exec.Run":           exec.Run,
		"exec.Query":         exec.Query,
		"exec.Read":          exec.Read,
		"explain.Of":         explain.Of,
		"explain.Sum":        explain.Sum,
		"explain.Difference": explain.Difference,
		"explain.Top":        explain.Top,
		"explain.Below":      explain.Below,
		"file.Head":          file.Head,
		"file.Chunk":         file.Chunk,
		"file.Create":        file.Create,
		"file.Append":        file.Append,
		"file.Read":          file.Read,
		"file.Open":          file.Open,
		"flame.OfSamples":    flame.OfSamples,
		"flame.OfSlices":     flame.OfSlices,
		"flame.Check":        flame.Check,
		"flame.Find":         flame.Find,
		"flame.Path":         flame.Path,
		"flame.Merge":        flame.Merge,
		"flame.Sum":          flame.Sum,
		"flow.Of":            flow.Of,
		"flow.Check":         flow.Check,
		"flow.Open":          flow.Open,
		"flow.Between":       flow.Between,
		"folded.Import":      folded.Import,
		"folded.Print":       folded.Print,
		"folded.Sum":         folded.Sum,
		"format.Query":       format.Query,
		"format.Expr":        format.Expr,
		"frac.Valid":         frac.Valid,
		"frac.Of":            frac.Of,
		"frac.Add":           frac.Add,
		"frac.Sub":           frac.Sub,
		"frac.Mul":           frac.Mul,
		"frac.Cmp":           frac.Cmp,
		"frac.Sum":           frac.Sum,
		"frac.Text":          frac.Text,
		"ftrace.Import":      ftrace.Import,
		"ftrace.Line":        ftrace.Line,
		"heap.Reach":         heap.Reach,
		"heap.Dominators":    heap.Dominators,
		"heap.Retained":      heap.Retained,
		"heap.Path":          heap.Path,
		"heap.Top":           heap.Top,
		"heapdump.Check":     heapdump.Check,
		"heapdump.Import":    heapdump.Import,
		"heapdump.Print":     heapdump.Print,
		"heapdump.Find":      heapdump.Find,
		"intern.Name":        intern.Name,
		"intern.Frames":      intern.Frames,
		"intern.Check":       intern.Check,
		"intern.Put":         intern.Put,
		"intern.PutStack":    intern.PutStack,
		"intern.Stack":       intern.Stack,
		"interval.Valid":     interval.Valid,
		"interval.Meet":      interval.Meet,
		"interval.Hull":      interval.Hull,
		"interval.Add":       interval.Add,
		"interval.Before":    interval.Before,
		"interval.Within":    interval.Within,
		"interval.Stretch":   interval.Stretch,
		"itree.Of":           itree.Of,
		"itree.Check":        itree.Check,
		"itree.Overlap":      itree.Overlap,
		"itree.Stab":         itree.Stab,
		"itree.Visits":       itree.Visits,
		"json.Check":         json.Check,
		"json.Parse":         json.Parse,
		"json.Print":         json.Print,
		"json.Get":           json.Get,
		"json.Same":          json.Same,
		"latency.Of":         latency.Of,
		"latency.All":        latency.All,
		"latency.Quantile":   latency.Quantile,
		"latency.Histogram":  latency.Histogram,
		"latency.Worst":      latency.Worst,
		"live.New":           live.New,
		"live.Feed":          live.Feed,
		"live.Watch":         live.Watch,
		"live.Flush":         live.Flush,
		"live.Trace":         live.Trace,
		"live.Check":         live.Check,
		"log.Of":             log.Of,
		"log.Check":          log.Check,
		"log.Gaps":           log.Gaps,
		"log.Get":            log.Get,
		"log.Ids":            log.Ids,
		"log.Merge":          log.Merge,
		"log.Same":           log.Same,
		"match.Of":           match.Of,
		"match.Check":        match.Check,
		"match.Shape":        match.Shape,
		"match.Renamed":      match.Renamed,
		"memory.Of":          memory.Of,
		"memory.Check":       memory.Check,
		"memory.Live":        memory.Live,
		"memory.Peak":        memory.Peak,
		"memory.Leaks":       memory.Leaks,
		"naive.Step":         naive.Step,
		"naive.Run":          naive.Run,
		"num.In":             num.In,
		"num.Add":            num.Add,
		"num.Mul":            num.Mul,
		"num.Floor":          num.Floor,
		"num.Ceil":           num.Ceil,
		"num.Quantile":       num.Quantile,
		"num.Text":           num.Text,
		"num.Parse":          num.Parse,
		"order.Of":           order.Of,
		"order.Check":        order.Check,
		"order.At":           order.At,
		"order.Last":         order.Last,
		"packet.Check":       packet.Check,
		"packet.Same":        packet.Same,
		"packet.Encode":      packet.Encode,
		"packet.Decode":      packet.Decode,
		"packet.Join":        packet.Join,
		"packet.Split":       packet.Split,
		"parse.Query":        parse.Query,
		"parse.Expr":         parse.Expr,
		"plan.Of":            plan.Of,
		"plan.Check":         plan.Check,
		"plan.Text":          plan.Text,
		"plan.Query":         plan.Query,
		"producer.Thread":    producer.Thread,
		"producer.New":       producer.New,
		"producer.Check":     producer.Check,
		"producer.Write":     producer.Write,
		"producer.Drain":     producer.Drain,
		"producer.Lost":      producer.Lost,
		"record.Encode":      record.Encode,
		"record.Decode":      record.Decode,
		"record.Size":        record.Size,
		"redact.Check":       redact.Check,
		"redact.Action":      redact.Action,
		"redact.Names":       redact.Names,
		"redact.Trace":       redact.Trace,
		"redact.Clean":       redact.Clean,
		"ring.New":           ring.New,
		"ring.Check":         ring.Check,
		"ring.Put":           ring.Put,
		"ring.Take":          ring.Take,
		"ring.Count":         ring.Count,
		"ring.Free":          ring.Free,
		"sample.Of":          sample.Of,
		"sample.Check":       sample.Check,
		"sample.Within":      sample.Within,
		"sample.Leaf":        sample.Leaf,
		"sample.Total":       sample.Total,
		"script.Run":         script.Run,
		"script.Line":        script.Line,
		"session.New":        session.New,
		"session.Write":      session.Write,
		"session.Snap":       session.Snap,
		"session.Flush":      session.Flush,
		"session.Crash":      session.Crash,
		"session.Log":        session.Log,
		"session.Query":      session.Query,
		"session.Check":      session.Check,
		"slice.Of":           slice.Of,
		"slice.Check":        slice.Check,
		"slice.Path":         slice.Path,
		"slice.At":           slice.At,
		"slice.Children":     slice.Children,
		"slice.Busy":         slice.Busy,
		"spans.Valid":        spans.Valid,
		"spans.Normal":       spans.Normal,
		"spans.IsNormal":     spans.IsNormal,
		"spans.Union":        spans.Union,
		"spans.Meet":         spans.Meet,
		"spans.Minus":        spans.Minus,
		"spans.Length":       spans.Length,
		"spans.Covers":       spans.Covers,
		"state.Of":           state.Of,
		"state.Check":        state.Check,
		"state.At":           state.At,
		"state.Total":        state.Total,
		"state.Running":      state.Running,
		"symbol.Check":       symbol.Check,
		"symbol.Find":        symbol.Find,
		"symbol.Frame":       symbol.Frame,
		"symbol.Samples":     symbol.Samples,
		"syntax.Expr":        syntax.Expr,
		"syntax.Step":        syntax.Step,
		"syntax.Query":       syntax.Query,
		"syntax.Columns":     syntax.Columns,
		"syntax.Same":        syntax.Same,
		"table.Check":        table.Check,
		"table.Of":           table.Of,
		"table.Find":         table.Find,
		"table.Col":          table.Col,
		"table.Order":        table.Order,
		"table.Sorted":       table.Sorted,
		"table.Same":         table.Same,
		"table.CheckAll":     table.CheckAll,
		"temporal.Overlap":   temporal.Overlap,
		"temporal.Nearest":   temporal.Nearest,
		"temporal.Coalesce":  temporal.Coalesce,
		"trace.Of":           trace.Of,
		"trace.Check":        trace.Check,
		"trace.Same":         trace.Same,
		"trace.Cut":          trace.Cut,
		"trace.Losses":       trace.Losses,
		"typing.Expr":        typing.Expr,
		"typing.Step":        typing.Step,
		"typing.Query":       typing.Query,
		"wait.Chain":         wait.Chain,
		"wait.Deadlock":      wait.Deadlock,
		"wait.Blame":         wait.Blame,
	}
}
