package script

import (
	"strconv"
	"strings"

	"garner/api"
)

// The first words of lines.
const (
	jobWord      = "job"
	tableWord    = "table"
	workerWord   = "worker"
	txnWord      = "txn"
	snapshotWord = "snapshot"
	abortWord    = "abort"
	pickWord     = "pick"
	crashWord    = "crash"
)

// How words are put together, and bytes as words.
const (
	blank     = " "
	lineEnd   = "\n"
	escape    = '%'
	noBytes   = "%"
	digits    = "0123456789ABCDEF"
	base      = 16
	digitPair = 2
	firstSign = 33
	lastSign  = 126
)

// name is the first word of a call's line.
func name(k api.OpKind) string {
	switch k {
	case api.OpGet:
		return "get"
	case api.OpPut:
		return "put"
	case api.OpInsert:
		return "insert"
	case api.OpDelete:
		return "delete"
	case api.OpScan:
		return "scan"
	case api.OpLook:
		return "look"
	}
	return ""
}

func join(l ...string) string { return strings.Join(l, blank) }

func number(n int) string { return strconv.Itoa(n) }

// word is bytes as a word of a text.
func word(b []byte) string {
	if len(b) == 0 {
		return noBytes
	}
	var w []byte
	for _, c := range b {
		if c >= firstSign && c <= lastSign && c != escape {
			w = append(w, c)
		} else {
			w = append(w, escape, digits[c/base], digits[c%base])
		}
	}
	return string(w)
}

// words tells a line's words, one behind the other, and keeps what is left.
func words(line string) func() (string, bool) {
	left, more := line, true
	return func() (string, bool) {
		if !more {
			return "", false
		}
		var w string
		w, left, more = strings.Cut(left, blank)
		return w, true
	}
}

// readNumber reads the next word as a number from 0 on.
func readNumber(next func() (string, bool)) (int, bool) {
	w, ok := next()
	n, e := strconv.Atoi(w)
	if !ok || e != nil || n < 0 {
		return 0, false
	}
	return n, true
}

// readBytes reads the next word as bytes.
func readBytes(next func() (string, bool)) ([]byte, bool) {
	w, ok := next()
	if !ok || w == "" {
		return nil, false
	}
	var b []byte
	for left := w; left != "" && left != noBytes; {
		if left[0] != escape {
			b, left = append(b, left[0]), left[1:]
			continue
		}
		if len(left) <= digitPair {
			return nil, false
		}
		c, e := strconv.ParseUint(left[1:1+digitPair], base, 8)
		if e != nil {
			return nil, false
		}
		b, left = append(b, byte(c)), left[1+digitPair:]
	}
	return b, true
}
