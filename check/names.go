package check

import "wavewright/api"

func stackName(s api.Stack) string       { return s.Name }
func inputName(x api.Input) string       { return x.Name }
func resourceName(x api.Resource) string { return x.Name }
func outputName(x api.Output) string     { return x.Name }

// find: the number of the first one that has that name; -1: none has.
func find[T any](l []T, nameOf func(T) string, name string) int {
	for i := range l {
		if nameOf(l[i]) == name {
			return i
		}
	}
	return -1
}

// twice: have two of them one name?
func twice[T any](l []T, nameOf func(T) string) bool {
	for i := range l {
		if find(l, nameOf, nameOf(l[i])) < i {
			return true
		}
	}
	return false
}
