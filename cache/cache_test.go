package cache_test

import (
	"math"
	"slices"
	"testing"

	"throng/api"
	"throng/cache"
)

// P15.1
func TestNew(t *testing.T) {
	for _, room := range []int{1, 2, api.MaxUnits} {
		if c, e := cache.New(room); c == nil || e != api.OK || len(c.Keys()) > 0 || c.Hits() != 0 || c.Misses() != 0 {
			t.Errorf("New(%d) %v, %d", room, c, e)
		}
	}
	for _, room := range []int{0, -1, api.MaxUnits + 1, math.MinInt, math.MaxInt} {
		if c, e := cache.New(room); c != nil || e != api.ErrForm {
			t.Errorf("New(%d) %v, %d", room, c, e)
		}
	}
}

// model is a cache that searches.
type model struct {
	room         int
	keys, vals   []int
	hits, misses int
}

// take removes a key and tells its value.
func (m *model) take(key int) (int, bool) {
	i := slices.Index(m.keys, key)
	if i < 0 {
		return 0, false
	}
	val := m.vals[i]
	m.keys, m.vals = slices.Delete(m.keys, i, i+1), slices.Delete(m.vals, i, i+1)
	return val, true
}

func (m *model) put(key, val int) {
	m.take(key)
	m.keys, m.vals = slices.Insert(m.keys, 0, key), slices.Insert(m.vals, 0, val)
	if len(m.keys) > m.room {
		m.keys, m.vals = m.keys[:m.room], m.vals[:m.room]
	}
}

func (m *model) get(key int) (int, bool) {
	val, ok := m.take(key)
	if ok {
		m.put(key, val)
		m.hits++
	} else {
		m.misses++
	}
	return val, ok
}

// P15.1, P15.2
func TestAgainstModel(t *testing.T) {
	for _, room := range []int{1, 2, 3, 10, 40} {
		c, _ := cache.New(room)
		m := &model{room: room}
		seed := uint64(room)
		for n := range 5000 {
			seed = seed*6364136223846793005 + 1442695040888963407
			key := int(seed>>33)%30 - 5
			switch what := seed >> 58; {
			case what < 28:
				c.Put(key, n)
				m.put(key, n)
			case what < 54:
				v, ok := c.Get(key)
				if w, have := m.get(key); v != w || ok != have {
					t.Fatalf("Get(%d) %d, %v, want %d, %v", key, v, ok, w, have)
				}
			case what < 63:
				ok := c.Drop(key)
				if _, have := m.take(key); ok != have {
					t.Fatalf("Drop(%d) %v", key, ok)
				}
			default:
				c.Clear()
				m.keys, m.vals = nil, nil
			}
			if !slices.Equal(c.Keys(), m.keys) || c.Hits() != m.hits || c.Misses() != m.misses {
				t.Fatalf("Keys %v, want %v; %d hits, %d misses", c.Keys(), m.keys, c.Hits(), c.Misses())
			}
		}
	}
}

// P15.1
func TestExample(t *testing.T) {
	c, _ := cache.New(1)
	c.Put(1, 10)
	c.Put(2, 20)
	if v, ok := c.Get(1); v != 0 || ok {
		t.Errorf("Get(1) %d, %v", v, ok)
	}
	if v, ok := c.Get(2); v != 20 || !ok {
		t.Errorf("Get(2) %d, %v", v, ok)
	}
}

// P15.1: any number is a key, and a value of 0 is one.
func TestEdges(t *testing.T) {
	c, _ := cache.New(4)
	for _, key := range []int{math.MinInt, 0, math.MaxInt, -1} {
		c.Put(key, 0)
		if v, ok := c.Get(key); v != 0 || !ok {
			t.Errorf("Get(%d) %d, %v", key, v, ok)
		}
	}
	if l := c.Keys(); !slices.Equal(l, []int{-1, math.MaxInt, 0, math.MinInt}) {
		t.Errorf("Keys %v", l)
	}
}

// P15.3
func TestRoom(t *testing.T) {
	c, _ := cache.New(api.MaxUnits)
	for key := range api.MaxUnits {
		c.Put(key, -key)
	}
	for key := range api.MaxUnits {
		if v, ok := c.Get(key); v != -key || !ok {
			t.Fatalf("Get(%d) %d, %v", key, v, ok)
		}
	}
}

// R2
func TestKeysAreNew(t *testing.T) {
	c, _ := cache.New(3)
	c.Put(1, 1)
	c.Put(2, 2)
	l := c.Keys()
	l[0] = 9
	_ = append(l[:1], 7)
	if l := c.Keys(); !slices.Equal(l, []int{2, 1}) {
		t.Errorf("Keys %v", l)
	}
}

// R1: a cache that New did not make.
func TestZero(t *testing.T) {
	var c cache.Cache
	c.Put(1, 1)
	if _, ok := c.Get(1); ok || c.Drop(1) || len(c.Keys()) > 0 {
		t.Error("it has a key")
	}
	c.Clear()
	c.Put(1, 1)
	if len(c.Keys()) > 0 {
		t.Error("it has a key after Clear")
	}
}
