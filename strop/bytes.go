package strop

func isBlank(c byte) bool { return c == 9 || c == 10 || c == 32 }

// isPrinted reports whether strings and formats may have a byte.
func isPrinted(c byte) bool { return 32 <= c && c <= 126 }

// isOfText reports whether a text may have a byte.
func isOfText(c byte) bool { return isPrinted(c) || isBlank(c) }

func isDigit(c byte) bool { return '0' <= c && c <= '9' }

func isSmall(c byte) bool { return 'a' <= c && c <= 'z' }

func isCapital(c byte) bool { return 'A' <= c && c <= 'Z' }

func isLetter(c byte) bool { return isSmall(c) || isCapital(c) }

// isCapitalOrDigit reports whether bold words in Upper may have a byte.
func isCapitalOrDigit(c byte) bool { return isCapital(c) || isDigit(c) }

// isLetterOrDigit reports whether bold words in Point and Quote may have a byte.
func isLetterOrDigit(c byte) bool { return isLetter(c) || isDigit(c) }

// isSmallOrDigit reports whether tags may have a byte, which is a small letter if it is one.
func isSmallOrDigit(c byte) bool { return isSmall(c) || isDigit(c) }

// isHex reports whether a byte is a digit of the radix 16, the greatest one.
func isHex(c byte) bool { return isDigit(c) || 'a' <= c && c <= 'f' }
