package tests

import (
	"os"
	"os/exec"
	"regexp"
	"testing"
)

// TestNothingIsFused reads what the compiler makes of the program for a
// machine with fused instructions: a machine without them, on which the other
// tests may run, cannot show that a product has lost its rounding.
func TestNothingIsFused(t *testing.T) {
	// Read here so that go test takes no result from its cache when a file of the program has changed.
	if _, err := os.ReadDir("../impl"); err != nil {
		t.Fatal(err)
	}
	build := exec.Command("go", "build", "-gcflags=-S", "-o", os.DevNull, "../impl")
	build.Env = append(os.Environ(), "GOOS=linux", "GOARCH=arm64", "CGO_ENABLED=0")
	code, err := build.CombinedOutput()
	if err != nil {
		t.Fatalf("go build: %v\n%s", err, code)
	}
	if !regexp.MustCompile(`\sFMUL[SD]\s`).Match(code) {
		t.Fatal("the compiler's output has no products at all")
	}
	for _, line := range regexp.MustCompile(`(?m)^.*\sFN?M(ADD|SUB)[SD]\s.*$`).FindAll(code, -1) {
		t.Errorf("fused: %s", line)
	}
}
