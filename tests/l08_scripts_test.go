package tests

import (
	"fmt"
	"strings"
	"testing"

	"loop.example/g01339/impl"
)

const mostScript = 16000

// scriptOfDesk carries out one line after another.
func scriptOfDesk(d impl.Desk, lines []string) (impl.Desk, string) {
	outputs := ""
	for _, line := range lines {
		after, output := lineOfDesk(d, line)
		d, outputs = after, outputs+output+"\n"
	}
	return d, outputs
}

func scriptOf(lines []string) string {
	script := ""
	for _, line := range lines {
		script += line + "\n"
	}
	return script
}

// drawnLine returns a line of any form, which is good more often than not.
func drawnLine(d *drawnBits) string {
	names := allNames()
	name := names[int(d.next())%len(names)]
	pick := func(list []string) string { return list[int(d.next())%len(list)] }
	line := name
	switch {
	case strings.Contains(numberNames, name):
		line += " " + fmt.Sprint(d.next()%24)
		if d.next()%6 == 0 {
			line = name + " " + pick(wordsForNumbers())
		}
	case strings.Contains(textNames, name) && d.next()%2 == 0:
		desks := goodDesks()
		desk := desks[int(d.next())%len(desks)]
		text, _ := oneWord(name)(&desk)
		line += " " + text
		if d.next()%6 == 0 {
			line = name + " " + pick(textsForParts())
		}
	}
	if d.next()%16 == 0 {
		line = pick([]string{"", " ", line + " ", " " + line, strings.ToUpper(line), name, line + " 2", "what", "x" + line})
	}
	return strings.ReplaceAll(line, "\n", "")
}

func drawnScript(d *drawnBits, count int) []string {
	lines := []string{}
	for range count {
		lines = append(lines, drawnLine(d))
	}
	return lines
}

func wantRun(t *testing.T, d impl.Desk, lines []string) (impl.Desk, string) {
	t.Helper()
	want, wantOutputs := scriptOfDesk(copyOfDesk(d), lines)
	script := scriptOf(lines)
	after, outputs, ok := impl.RunDesk(d, script)
	if outputs != wantOutputs || !ok {
		t.Errorf("RunDesk %.500q at %v: got %.500q, %v, want %.500q", script, d, outputs, ok, wantOutputs)
	}
	wantDesk(t, call{"RunDesk ", fmt.Sprintf("%.500q", script)}, after, want)
	return after, outputs
}

func TestDrawnScripts(t *testing.T) {
	d := drawnBits(173)
	desks, outputs := goodDesks(), ""
	for i := range 400 {
		lines := drawnScript(&d, i%14)
		if len(scriptOf(lines)) > mostScript {
			continue
		}
		_, output := wantRun(t, desks[i%len(desks)], lines)
		outputs += output
	}
	for _, output := range []string{"no", "what", "ok"} {
		wantSame(t, "many outputs are "+output, strings.Count(outputs, "\n"+output+"\n") > 100, true)
	}
}

// TestScriptsAreLines carries out lines one by one, which must bring the same as the script.
func TestScriptsAreLines(t *testing.T) {
	d := drawnBits(174)
	for _, desk := range goodDesks() {
		lines := drawnScript(&d, 12)
		at, outputs := desk, ""
		for _, line := range lines {
			after, output, ok := impl.DeskCommand(at, line)
			wantSame(t, "DeskCommand succeeds: "+line, ok, true)
			at, outputs = after, outputs+output+"\n"
		}
		if script := scriptOf(lines); len(script) <= mostScript {
			after, all, ok := impl.RunDesk(desk, script)
			wantSame(t, fmt.Sprintf("RunDesk %.500q", script), all, outputs)
			wantSame(t, "RunDesk succeeds", ok, true)
			wantDesk(t, call{"RunDesk behind ", lines}, after, at)
		}
	}
}

func TestKnownScripts(t *testing.T) {
	d := impl.NewDesk()
	for _, c := range []struct{ script, outputs string }{
		{"", ""}, {"\n", "what\n"}, {"\n\n", "what\nwhat\n"}, {" \n", "what\n"}, {"gap\n", "3f000000\n"}, {"gap\n\n", "3f000000\nwhat\n"}, {"\ngap\n", "what\n3f000000\n"}, {"order\nboth\nwords 2\n", "0,2,1\n2/20\n0,1481765933\n"},
		{"words 1\nwords 1\nwords 65\nwords 0\nseed\n", "0\n1481765933\nno\nnone\n0;5851f42d4c957f2e;0000000000000001\n"}, {"order 1,0\norder\norder 0,1\norder\n", "no\n0,2,1\nok\n0,1\n"}, {"list none\nlist\nlist 3f800000\nlist\ngap\n", "no\n3e800000,3f000000\nok\n3f800000\n3f800000\n"},
		{"gap\r\n", "what\n"}, {"gap\n \ngap \n", "3f000000\nwhat\nwhat\n"}, {"table 3,2;1,2,3,4,5,6\nsums\nless\nexact\ntable\n", "ok\n3,7,11;9,12\nno\nno\n3,2;1,2,3,4,5,6\n"},
	} {
		after, outputs, ok := impl.RunDesk(d, c.script)
		wantSame(t, fmt.Sprintf("RunDesk %q", c.script), outputs, c.outputs)
		wantSame(t, "RunDesk succeeds", ok, true)
		want, _ := scriptOfDesk(newDesk(), strings.Split(c.script, "\n")[:strings.Count(c.script, "\n")])
		wantDesk(t, call{"RunDesk ", c.script}, after, want)
	}
}

func TestScriptsThatAreNone(t *testing.T) {
	d := impl.NewDesk()
	long := strings.Repeat("words 1\n", mostScript/8)
	for _, script := range []string{"gap", "gap\nlist", "\ngap", " ", "\n ", "x", "\n\x00", "gap\n\r", "\xff", long[1:] + "xx", long + "\n", long[1:] + "\n\n", long + "x", strings.Repeat("\n", mostScript+1), strings.Repeat("x", mostScript), strings.Repeat("x", mostScript) + "\n", strings.Repeat("gap\n", 1<<18)} {
		after, outputs, ok := impl.RunDesk(d, script)
		wantFailure(t, fmt.Sprintf("RunDesk %.100q", script), outputs, ok, after)
	}
	for _, lines := range [][]string{strings.Split(long, "\n")[:mostScript/8], make([]string, mostScript), {strings.Repeat("x", mostScript-1)}, {"list " + strings.Repeat("00000000,", 1700), "gap"}, {strings.Repeat(" ", mostScript-1)}, {"seed " + strings.Repeat("0", mostScript-6)}, {"", strings.Repeat("\x00", mostScript-2)}} {
		wantRun(t, d, lines)
	}
	wantSame(t, "the longest script has as many bytes as it can", len(long), mostScript)
	_, outputs, ok := impl.RunDesk(d, strings.Repeat("words 64\n", mostScript/9))
	wantSame(t, "outputs that are longer than a script can be", ok && len(outputs) > 1000000, true)
}

func TestCountOutputs(t *testing.T) {
	for _, c := range []struct {
		text      string
		bad, good int64
	}{
		{"", 0, 0}, {"\n", 0, 1}, {"\n\n", 0, 2}, {"no\n", 1, 0}, {"what\n", 1, 0}, {"ok\n", 0, 1}, {"none\n", 0, 1}, {"no\nwhat\nok\nno\n3f000000\n", 3, 2}, {"\nno\n", 1, 1}, {"no\n\n", 1, 1},
		{"No\n", 0, 1}, {"NO\n", 0, 1}, {"What\n", 0, 1}, {"no \n", 0, 1}, {" no\n", 0, 1}, {"no\r\n", 0, 1}, {"no\x00\n", 0, 1}, {"what \n", 0, 1}, {"whats\n", 0, 1}, {"wha\n", 0, 1}, {"n\n", 0, 1}, {"nono\n", 0, 1}, {"no no\n", 0, 1}, {"no,what\n", 0, 1}, {"\xff\n", 0, 1}, {"any line\n", 0, 1}, {"0\n1/2\n-1\n", 0, 3},
		{strings.Repeat("no\n", 5333), 5333, 0}, {strings.Repeat("what\n", 3200), 3200, 0}, {strings.Repeat("\n", mostScript), 0, mostScript}, {strings.Repeat("x", mostScript-1) + "\n", 0, 1}, {strings.Repeat("\n", mostScript-3) + "no\n", 1, mostScript - 3},
	} {
		bad, good, ok := impl.CountOutputs(c.text)
		wantSame(t, fmt.Sprintf("CountOutputs %.100q, no and what", c.text), bad, c.bad)
		wantSame(t, fmt.Sprintf("CountOutputs %.100q, others", c.text), good, c.good)
		wantSame(t, "CountOutputs succeeds", ok, true)
	}
	for _, text := range []string{"no", "ok", "what", " ", "x", "no\nno", "no\n ", "\nno", "\n\x00", "no\n\r", strings.Repeat("no\n", 5334), strings.Repeat("\n", mostScript+1), strings.Repeat("x", mostScript), strings.Repeat("x", mostScript) + "\n", strings.Repeat("what\n", 1<<18)} {
		bad, good, ok := impl.CountOutputs(text)
		wantFailure(t, fmt.Sprintf("CountOutputs %.100q", text), bad, good, ok)
	}
}

// TestOutputsOfScriptsAreCounted counts what scripts bring.
func TestOutputsOfScriptsAreCounted(t *testing.T) {
	d := drawnBits(175)
	for _, desk := range goodDesks() {
		lines := drawnScript(&d, 20)
		_, outputs := scriptOfDesk(desk, lines)
		refused := strings.Count("\n"+strings.ReplaceAll(outputs, "\n", "\n\n"), "\nno\n") + strings.Count("\n"+strings.ReplaceAll(outputs, "\n", "\n\n"), "\nwhat\n")
		bad, good, ok := impl.CountOutputs(outputs)
		if len(outputs) > mostScript {
			wantFailure(t, "CountOutputs of long outputs", bad, good, ok)
			continue
		}
		wantSame(t, fmt.Sprintf("CountOutputs %.300q", outputs), bad, int64(refused))
		wantSame(t, "CountOutputs, others", good, int64(20-refused))
		wantSame(t, "CountOutputs succeeds", ok, true)
	}
}
