/-
  Choices of k of n, one after the other.
  How many choices of k of n there are.
  Sets of numbers, each as a number whose bits say what it has: how many there are, which place each has, and which one is next. No Go in sight.
-/
import Derived.Test.YtkfnedpnkeacpaaQaaes00
import Derived.Test.YtkfnedpnkeacpaaQaaes01
set_option maxRecDepth 100000
set_option maxHeartbeats 16000000
namespace Go.Proofs.Ytkfnedpnkeacpaa
/-- The choice as a number. -/
def vl (n : Nat) (q : Nat → Nat) : Nat → Nat
 | 0 => 0
 | k + 1 => vl n q k * n + q k
def bin : Nat → Nat → Nat
 | _, 0 => 1
 | 0, _ + 1 => 0
 | n + 1, k + 1 => bin n (k + 1) + bin n k
/-- Bit i. -/
def bt (s i : Nat) : Nat := s / 2 ^ i % 2
/-- How many sets of l have the least number and m numbers in all, or could. -/
def bw (l : Nat) : Nat → Nat
 | 0 => 0
 | m + 1 => bin l m
end Go.Proofs.Ytkfnedpnkeacpaa
