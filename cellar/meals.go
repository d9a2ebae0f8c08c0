package cellar

import "pippin/api"

// meals is how many fruits are eaten on each day, lot by lot.
type meals [api.MaxCellarDays][api.MaxCellarLots]int

// price says what a fruit of a lot counts that is eaten on a day.
type price func(day, lot int) int

func (m meals) onDay(day int) int {
	sum := 0
	for _, fruits := range m[day] {
		sum += fruits
	}
	return sum
}

func (m meals) ofLot(lot int) int {
	sum := 0
	for _, lots := range m {
		sum += lots[lot]
	}
	return sum
}

// plan returns the meals at which something is eaten.
func (m meals) plan() []api.CellarMeal {
	var plan []api.CellarMeal
	for day, lots := range m {
		for lot, fruits := range lots {
			if fruits > 0 {
				plan = append(plan, api.CellarMeal{Day: day, Lot: lot, Fruits: fruits})
			}
		}
	}
	return plan
}

// count returns what all fruits that are eaten count together.
func (m meals) count(of price) int {
	sum := 0
	for _, meal := range m.plan() {
		sum += meal.Fruits * of(meal.Day, meal.Lot)
	}
	return sum
}

// read returns the meals of a plan, if each of them can be, and they are in their order.
func (s store) read(plan []api.CellarMeal) (meals, bool) {
	var m meals
	for at, meal := range plan {
		if !s.canBe(meal) || at > 0 && !ahead(plan[at-1], meal) {
			return meals{}, false
		}
		m[meal.Day][meal.Lot] = meal.Fruits
	}
	return m, true
}

func (s store) canBe(meal api.CellarMeal) bool {
	if !within(meal.Day, len(s.Guests)) || !within(meal.Lot, len(s.Lots)) || !s.canEat(meal.Day, meal.Lot) {
		return false
	}
	return 1 <= meal.Fruits && meal.Fruits <= s.Lots[meal.Lot].Fruits
}

// ahead reports whether a meal is ahead of another one in a plan.
func ahead(one, other api.CellarMeal) bool {
	return one.Day < other.Day || one.Day == other.Day && one.Lot < other.Lot
}

// enough reports whether there are as many guests and fruits as the meals take.
func (s store) enough(m meals) bool {
	for day, guests := range s.Guests {
		if m.onDay(day) > guests {
			return false
		}
	}
	for lot, l := range s.Lots {
		if m.ofLot(lot) > l.Fruits {
			return false
		}
	}
	return true
}
