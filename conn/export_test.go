package conn

// Unasked lets data come that were not asked for. No login agrees on that, as text holds InitialR2T at Yes from the beginning on.
func Unasked(c *Conn) { c.agreed.Asked = false }
