package drive

// Arm has the drive die at the deed behind the next n ones; below 0 at none.
func (d *Drive) Arm(n int) {
	if d.dead {
		return
	}
	d.armed, d.left = n >= 0, max(n, 0)
}

// Crash leaves what is safe and the first keep units of the queue; keep counts modulo all units and one.
func (d *Drive) Crash(keep int) {
	choices := allUnits(d.queue) + 1
	keep %= choices
	if keep < 0 {
		keep += choices
	}
	replay(&d.safe, d.queue, keep)
	d.restart()
}

// Wipe takes all files away.
func (d *Drive) Wipe() {
	d.safe = files{}
	d.restart()
}

// restart has the drive alive again, with what is safe alone.
func (d *Drive) restart() {
	*d = Drive{room: d.room, safe: d.safe, seen: d.safe.twin()}
}

// Twin answers another drive like this one, which goes its own way.
func (d *Drive) Twin() *Drive {
	// Both keep the queue so far: neither may grow it into room behind it that is the other's too.
	d.queue = d.queue[:len(d.queue):len(d.queue)]
	t := *d
	t.safe, t.seen = d.safe.twin(), d.seen.twin()
	return &t
}
