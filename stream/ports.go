package stream

import "maps"

const maxPort = 1<<16 - 1

// ports are those that are open.
type ports struct{ open map[int]struct{} }

func newPorts() ports { return ports{open: map[int]struct{}{}} }

func (p ports) fork() ports { return ports{open: maps.Clone(p.open)} }

func (p ports) listen(l []int) {
	for _, port := range l {
		p.open[port] = struct{}{}
	}
}

func (p ports) stop(l []int) {
	for _, port := range l {
		delete(p.open, port)
	}
}

func (p ports) isOpen(port int) bool {
	_, is := p.open[port]
	return is
}

func isNoPort(port int) bool { return port < 1 || port > maxPort }
