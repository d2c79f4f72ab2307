package word

import "mandrel/api"

// dictionary is a valid book with its classes: two words are alike just if they are in the same class.
type dictionary struct {
	api.WordBook
	names   [api.MaxWord + 1]int // for each word, the name of its class
	classes map[int][]int        // the words of each class that the Likes name, at its name
}

// open returns a book with its classes.
func open(b api.WordBook) *dictionary {
	d := &dictionary{WordBook: b, classes: map[int][]int{}}
	for word := range d.names {
		d.names[word] = word
	}
	for _, pair := range d.Likes {
		for _, word := range pair {
			d.classes[word] = []int{word}
		}
	}
	for _, pair := range d.Likes {
		d.join(d.class(pair[0]), d.class(pair[1]))
	}
	return d
}

// class returns the name of the class of a word.
func (d *dictionary) class(word int) int { return d.names[word] }

// join makes two classes one, which keeps the name of the first one.
func (d *dictionary) join(one, two int) {
	if one == two {
		return
	}
	for _, word := range d.classes[two] {
		d.names[word] = one
	}
	d.classes[one] = append(d.classes[one], d.classes[two]...)
	delete(d.classes, two)
}

// alike tells whether words are all alike.
func (d *dictionary) alike(words ...int) bool { return same(words, d.class) }

// kin returns what tells whether a word is alike to one.
func (d *dictionary) kin(one int) func(word int) bool {
	class := d.class(one)
	return func(word int) bool { return d.class(word) == class }
}
