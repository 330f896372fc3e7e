// Package numbers: numbers as bytes, the highest byte first (P8).
package numbers

// Write fills b with the lowest bytes of a number, in two's complement.
func Write(b []byte, number int) {
	for i := len(b) - 1; i >= 0; i-- {
		b[i] = byte(number)
		number >>= 8
	}
}

// Read answers the number that stands in b. It is below 0 only if b is eight bytes.
func Read(b []byte) int {
	number := 0
	for _, x := range b {
		number = number<<8 | int(x)
	}
	return number
}
