// Package sundial: points of time and their values, the older the coarser: see DOC.md.
package sundial

import (
	"sundial/api"
	"sundial/archive"
	"sundial/config"
	"sundial/method"
)

// Database is archives of points.
type Database struct {
	archives []archive.Archive // the finest first
	method   method.Method
	factor   int
}

// Check tells whether a configuration may be (P2).
func Check(c api.Config) api.Errno {
	if !config.Good(c) {
		return api.ErrConfig
	}
	return api.OK
}

// Create makes a database without points (P3).
func Create(c api.Config) (*Database, api.Errno) {
	if e := Check(c); e != api.OK {
		return nil, e
	}
	m, _ := method.ByNumber(c.Method)
	d := &Database{method: m, factor: c.Factor}
	for _, a := range config.Used(c) {
		d.archives = append(d.archives, archive.New(a))
	}
	return d, api.OK
}

// Config tells the configuration (P3).
func (d *Database) Config() api.Config {
	c := api.Config{Method: method.Number(d.method), Factor: d.factor}
	for i, a := range d.archives {
		c.Archives[i] = a.Shape()
	}
	return c
}
