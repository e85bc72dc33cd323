package tests

import (
	"fmt"
	"go/ast"
	"go/parser"
	"go/token"
	"maps"
	"math"
	"os"
	"path/filepath"
	"reflect"
	"slices"
	"strings"
	"testing"

	"loop.example/g00227/impl"
)

// everyFunc is the exported functions of all chapters.
func everyFunc() map[string]any {
	return map[string]any{
		"PutInt": impl.PutInt, "GetInt": impl.GetInt, "PutShort": impl.PutShort, "GetShort": impl.GetShort, "PutLong": impl.PutLong, "GetLong": impl.GetLong,
		"CheckSum": impl.CheckSum, "NameOk": impl.NameOk, "DecText": impl.DecText, "ReadDec": impl.ReadDec, "Words": impl.Words,
		"FrameOk": impl.FrameOk, "PutFrame": impl.PutFrame, "NextFrame": impl.NextFrame, "Frames": impl.Frames, "Cut": impl.Cut,
		"Form": impl.Form, "MethodOk": impl.MethodOk, "PutMethod": impl.PutMethod, "GetMethod": impl.GetMethod, "MethodText": impl.MethodText, "Say": impl.Say,
		"KeyOk": impl.KeyOk, "RoutesOk": impl.RoutesOk, "TopicMatch": impl.TopicMatch, "Declare": impl.Declare, "Bind": impl.Bind, "Unbind": impl.Unbind, "Route": impl.Route,
		"QueueOk": impl.QueueOk, "Push": impl.Push, "Pop": impl.Pop, "Drop": impl.Drop, "Return": impl.Return, "Depth": impl.Depth,
		"StreamOk": impl.StreamOk, "StreamPut": impl.StreamPut, "StreamTrim": impl.StreamTrim, "StreamRead": impl.StreamRead, "StreamSeek": impl.StreamSeek,
		"StreamMark": impl.StreamMark, "StreamMarked": impl.StreamMarked, "StreamPart": impl.StreamPart,
		"TableOk": impl.TableOk, "TableGet": impl.TableGet, "TablePut": impl.TablePut, "TableDrop": impl.TableDrop, "TableFlush": impl.TableFlush,
		"TableMerge": impl.TableMerge, "TableScan": impl.TableScan, "TableSize": impl.TableSize,
		"BatchOk": impl.BatchOk, "PutBatch": impl.PutBatch, "GetBatch": impl.GetBatch, "Record": impl.Record, "Records": impl.Records, "Append": impl.Append, "Replay": impl.Replay,
		"StoreOk": impl.StoreOk, "StoreDo": impl.StoreDo, "StoreSync": impl.StoreSync, "StoreCrash": impl.StoreCrash, "StoreStep": impl.StoreStep, "StoreGet": impl.StoreGet, "StoreAll": impl.StoreAll,
		"CoreOk": impl.CoreOk, "CoreQueue": impl.CoreQueue, "CorePublish": impl.CorePublish, "CoreGet": impl.CoreGet, "CoreAck": impl.CoreAck, "CoreNack": impl.CoreNack,
		"CoreLeave": impl.CoreLeave, "CoreDepth": impl.CoreDepth,
		"Fail": impl.Fail, "ChannelDo": impl.ChannelDo, "ChannelOk": impl.ChannelOk,
		"Header": impl.Header, "Spoken": impl.Spoken, "ConnFeed": impl.ConnFeed, "ConnOk": impl.ConnOk,
		"Settled": impl.Settled, "Pairs": impl.Pairs, "Load": impl.Load, "Diff": impl.Diff, "Digits": impl.Digits,
		"MillStart": impl.MillStart, "MillOk": impl.MillOk, "MillOpen": impl.MillOpen, "MillFeed": impl.MillFeed, "MillTick": impl.MillTick, "MillTrim": impl.MillTrim,
		"MillStep": impl.MillStep, "MillSync": impl.MillSync, "MillCrash": impl.MillCrash,
		"ReadMethod": impl.ReadMethod, "DeskLine": impl.DeskLine, "Desk": impl.Desk,
	}
}

// TestEveryFuncIsListed wants everyFunc to leave out none that the program has.
func TestEveryFuncIsListed(t *testing.T) {
	files, _ := filepath.Glob("../impl/*.go")
	var names []string
	for _, name := range files {
		text, err := os.ReadFile(name)
		if err != nil {
			t.Fatal(err)
		}
		file, err := parser.ParseFile(token.NewFileSet(), name, text, 0)
		if err != nil {
			t.Fatal(err)
		}
		for _, d := range file.Decls {
			if f, is := d.(*ast.FuncDecl); is && f.Recv == nil && f.Name.IsExported() {
				names = append(names, f.Name.Name)
			}
		}
	}
	slices.Sort(names)
	if listed := slices.Sorted(maps.Keys(everyFunc())); !slices.Equal(names, listed) || len(files) != 15 {
		t.Errorf("the functions of %d files are %v; listed are %v", len(files), names, listed)
	}
}

// oddPool is arguments by their type, right and wrong ones.
type oddPool struct {
	values map[reflect.Type][]reflect.Value
	roll   func(n int) int
}

// addAll puts what is right and what is wrong of one type into a pool.
func addAll[T any](p *oddPool, more []T, lists ...map[string]T) {
	for _, list := range lists {
		for _, why := range slices.Sorted(maps.Keys(list)) {
			more = append(more, list[why])
		}
	}
	for _, x := range more {
		v := reflect.ValueOf(x)
		p.values[v.Type()] = append(p.values[v.Type()], v)
	}
}

// oddTexts are texts that are bytes of something, or nearly, or of nothing.
func oddTexts() []string {
	out := []string{
		"", " ", "  ", ".", "-", "=", "#", "*", "*.#", "#.#.#", "a", "m", "z", "q", "s", "d", "f", "t", "log", "ann", "none", "k.1", "a.log", "Name", "a b", "é", "\x00", "\xff\xfe", "\n",
		"0", "007", "-1", "999999999", "1000000000", "9223372036854775808", "direct", "20 10", "60 71 5 1 = =k 2", "60 71 5 1 = =k", "60 40 = =q", "50 10 =q 256",
		impl.PutInt(-1, 8), impl.PutLong("text"), "\x00\x00\x00\x04tex", "\xff\xff\xff\xff\xff\xff\xff\xff",
		strings.Repeat("n", 30), strings.Repeat("n", 31), strings.Repeat("k", 60), strings.Repeat("k", 61), strings.Repeat("#.", 30), strings.Repeat(" ", 500),
		wire("0 beat"), wire("1 20 10"), wire("1 20 10")[:9], wire("1 60 70 =a"), wire("1 60 40 = =z", "1 head 2", "1 body ab"), wire("4 body cde"), wire("3 90 20") + "x", wire("0 10 50 = ="), publishes(61, "a", 1),
		impl.PutBatch(someBatch()), impl.Record(someBatch()), impl.Record(someBatch())[1:], impl.Record(someBatch()) + "x", someMill().Store.Log, headBytes(3), headBytes(-1),
		"say 50 10 =new 0\nsay 60 40 = =new two  words\nsay 60 70 =new\nread s 0\ncrash 9\n", strings.Repeat("\n", 101), strings.Repeat("tick 1\n", 100),
	}
	for _, n := range []int{100, 101, 255, 256, 3000, 3001, 4000, 4001, 60001, 100001, 200001} {
		out = append(out, manyBytes(n))
	}
	for i, line := range eachLine() {
		if i%5 == 0 {
			out = append(out, line)
		}
	}
	return out
}

// newOddPool has what the tests of the chapters take for right and for wrong.
func newOddPool(seed uint32) *oddPool {
	p := &oddPool{values: map[reflect.Type][]reflect.Value{}, roll: diceOf(seed)}
	addAll(p, []bool{false, true})
	addAll(p, []int{math.MinInt, math.MinInt + 1, -4294967296, -billion, -65536, -256, -1, 0, 1, 2, 3, 4, 5, 7, 8, 9, 10, 17, 20, 40, 50, 59, 60, 61, 70, 80, 85, 90, 100, 120, 255, 256, 300, 1000, 1001, 3000, 3001, 4000, 4001, 65535, 65536, 999999999, billion, billion + 1, 4294967295, 4294967296, math.MaxInt - 1, math.MaxInt})
	addAll(p, oddTexts())
	addAll(p, []impl.Frame{{}, {Kind: 1}, {Kind: 3, Channel: 65535, Payload: manyBytes(4000)}, {Kind: 3, Payload: manyBytes(4001)}, {Kind: 4}, {Kind: 8, Channel: -1}, {Kind: 2, Channel: 65536}})
	methods := []impl.Method{{}, {Class: -1, Id: math.MaxInt}, {Class: 60, Id: 40}, {Class: 60, Id: 40, Texts: []string{manyBytes(256), ""}}, {Class: 20, Id: 10, Nums: []int{-1}}, {Class: 60, Id: 80, Nums: []int{-1, 256}}, {Texts: manyQueueNames(300), Nums: make([]int, 300)}}
	for _, k := range knownMethods {
		methods = append(methods, k.plain())
	}
	for _, words := range eachMethod {
		methods = append(methods, asking(words))
	}
	addAll(p, methods)
	addAll(p, []impl.Routes{{}, someRoutes(), coreRoutes()}, wrongRoutes())
	addAll(p, []impl.Queue{{}, someQueue(), {Name: "q", Next: billion, Ready: manyReady(1, 500)}}, wrongQueues())
	addAll(p, []impl.Stream{{}, someStream(), trimmedStream(), fullStream("s", 400)}, wrongStreams())
	addAll(p, []impl.Table{{}, someTable(), {Runs: manyRuns(8)}}, wrongTables())
	addAll(p, [][]impl.Pair{nil, {}, keptBy(millCore()), manyPairs(300, 0)}, rightBatches(), wrongBatches(), wrongLists())
	addAll(p, []impl.Store{}, rightStores(), wrongStores())
	addAll(p, []impl.Core{millCore(), nestedCore()}, rightCores(), wrongCores())
	addAll(p, []impl.Channel{}, rightChannels(), wrongChannels())
	addAll(p, [][]impl.Reply{nil, saying("20 11", "7 7"), handing("60 71 1 0 = =k 2", manyBytes(2500)), handing("60 72", manyBytes(9000))})
	addAll(p, []impl.Conn{}, rightConns(), wrongConns())
	addAll(p, []impl.Mill{}, rightMills(), wrongMills())
	return p
}

// manyQueueNames are texts that are names.
func manyQueueNames(n int) []string {
	var out []string
	for i := range n {
		out = append(out, fmt.Sprint("name-", i))
	}
	return out
}

// any is some value of a type of the pool.
func (p *oddPool) any(kind reflect.Type) reflect.Value {
	list := p.values[kind]
	return list[p.roll(len(list))]
}

// spoilt is a value in which something is another than it was, at one place.
func (p *oddPool) spoilt(v reflect.Value) reflect.Value {
	out := reflect.New(v.Type()).Elem()
	out.Set(v)
	switch v.Kind() {
	case reflect.Struct:
		field := out.Field(p.roll(v.NumField()))
		field.Set(p.spoilt(field))
	case reflect.Slice:
		out.Set(p.spoiltList(v))
	default:
		out.Set(p.any(v.Type()))
	}
	return out
}

// spoiltList is a list of which one is another, too many, too few, or elsewhere.
func (p *oddPool) spoiltList(v reflect.Value) reflect.Value {
	n := v.Len()
	out := reflect.AppendSlice(reflect.MakeSlice(v.Type(), 0, n), v)
	if n == 0 {
		return reflect.Append(out, reflect.Zero(v.Type().Elem()))
	}
	at, other := p.roll(n), p.roll(n)
	switch p.roll(8) {
	case 0:
		return reflect.Append(out, v.Index(at))
	case 1:
		return reflect.AppendSlice(out.Slice(0, at), v.Slice(at+1, n))
	case 2:
		out.Index(at).Set(v.Index(other))
		out.Index(other).Set(v.Index(at))
	case 3:
		for out.Len() < 600 && p.roll(3) > 0 {
			out = reflect.AppendSlice(out, out)
		}
	default:
		out.Index(at).Set(p.spoilt(v.Index(at)))
	}
	return out
}

// wantAnswer wants a function to answer, twice the same, without a panic, and
// to leave its arguments and their memory alone.
func wantAnswer(t *testing.T, name string, f reflect.Value, args []reflect.Value) {
	t.Helper()
	what := name
	for _, v := range args {
		what += fmt.Sprintf(", %.200s", fmt.Sprintf("%#v", v))
	}
	defer func() {
		if cause := recover(); cause != nil {
			t.Errorf("%s panics: %v", what, cause)
		}
	}()
	answer := wantApartAll(t, what, args, f.Call)
	for i, v := range f.Call(args) {
		if !alike(v, answer[i]) {
			t.Errorf("%s answers %.500v, and then %.500v", what, answer[i], v)
		}
	}
}

// TestEveryFuncByPromise gives each function each argument of the pool at each
// of its places, beside others at random, of which many are spoilt.
func TestEveryFuncByPromise(t *testing.T) {
	p := newOddPool(16)
	all := everyFunc()
	for _, name := range slices.Sorted(maps.Keys(all)) {
		f := reflect.ValueOf(all[name])
		rounds := 0
		for place := range f.Type().NumIn() {
			for _, v := range p.values[f.Type().In(place)] {
				var args []reflect.Value
				for i := range f.Type().NumIn() {
					arg := p.any(f.Type().In(i))
					if i == place {
						arg = v
					}
					for p.roll(3) == 0 {
						arg = p.spoilt(arg)
					}
					args = append(args, arg)
				}
				wantAnswer(t, name, f, args)
				rounds++
			}
		}
		if rounds == 0 {
			t.Errorf("%s is not asked", name)
		}
	}
}
