package history

import (
	"strconv"

	"latchstring/api"
	"latchstring/mode"
	"latchstring/name"
)

// Text returns the text of an event.
func Text(e api.Event) string {
	call := "t" + strconv.Itoa(e.Thread) + " c" + strconv.Itoa(e.Call) + " "
	if !e.Invoke {
		return call + codeText(e.Act.Code)
	}
	return call + kindText(e.Act.Kind) + " x" + strconv.Itoa(e.Act.Txn) + " " + name.Text(e.Act.Name) + " " + mode.Text(e.Act.Mode)
}

func kindText(kind int) string {
	switch kind {
	case api.ActAcquire:
		return "acquire"
	case api.ActRelease:
		return "release"
	case api.ActReleaseAll:
		return "releaseall"
	case api.ActPass:
		return "pass"
	}
	return "?"
}

func codeText(code int) string {
	switch code {
	case api.Granted:
		return "granted"
	case api.Timeout:
		return "timeout"
	case api.Cancelled:
		return "cancelled"
	case api.Deadlock:
		return "deadlock"
	case api.Full:
		return "full"
	case api.Misuse:
		return "misuse"
	}
	return "?"
}
