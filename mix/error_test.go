package mix

import (
	"errors"
	"testing"
)

func TestMisfitWrapsItsCause(t *testing.T) {
	if err := check([]byte("123456789"), 0xE3069283); err != nil {
		t.Errorf("a sum that fits: %v", err)
	}
	err := check([]byte("123456789"), 1)
	if !errors.Is(err, errSum) {
		t.Fatalf("a sum that does not fit: %v", err)
	}
	if want := "the sum does not fit: it is 0xe3069283, not 0x1"; err.Error() != want {
		t.Errorf("it says: %s", err.Error())
	}
}
