/- Plain mathematics of the simulated disk: what each operation gives. Imports nothing of the program. -/
import Derived.Laws.BitsLemmas
namespace Go.Proofs.Ytdchodjfgeglgaa
open Go

def InB (l : List Int) : Prop := ∀ z ∈ l, 0 ≤ z ∧ z ≤ 255
theorem InB.getD {l : List Int} (h : InB l) (k : Nat) : 0 ≤ l.getD k 0 ∧ l.getD k 0 ≤ 255 := by
  by_cases hk : k < l.length
  · have := h (l[k]) (List.getElem_mem hk)
    simpa [List.getD, hk] using this
  · simp [List.getD, Nat.le_of_not_lt hk]
theorem InB.take {l : List Int} (h : InB l) (k : Nat) : InB (l.take k) := fun z hz => h z (List.mem_of_mem_take hz)
theorem InB.append {l m : List Int} (hl : InB l) (hm : InB m) : InB (l ++ m) := fun z hz => by
  rcases List.mem_append.1 hz with h | h
  · exact hl z h
  · exact hm z h
theorem InB.nil : InB [] := fun z hz => by cases hz

structure Dk where
  size : Int
  data : List Int
  dur : Int
  left : Int
  down : Bool
def dz : Dk := ⟨0, [], 0, 0, false⟩
def okD (d : Dk) : Bool := decide (1 ≤ d.size ∧ d.size ≤ 1048576 ∧ (d.data.length : Int) ≤ d.size ∧ 0 ≤ d.dur ∧ d.dur ≤ d.data.length ∧ -1 ≤ d.left ∧ d.left ≤ 1048576)
def chkF (d : Dk) : Int := if okD d = true then 0 else 2
def readyF (d : Dk) : Dk × Int := if okD d = true then (if d.down = true then (d, 19) else (d, 0)) else (dz, 2)
def appF (d : Dk) (b : List Int) : Dk × Int :=
  if okD d = true then
    if d.down = true then (d, 19)
    else if d.size < d.data.length + b.length then (dz, 6)
    else if 0 ≤ d.left ∧ d.left < b.length then (⟨d.size, d.data ++ b.take d.left.toNat, d.dur, 0, true⟩, 19)
    else (⟨d.size, d.data ++ b, d.dur, if 0 ≤ d.left then d.left - b.length else -1, false⟩, 0)
  else (dz, 2)
def syncF (d : Dk) : Dk × Int :=
  if okD d = true then
    if d.down = true then (d, 19)
    else if d.left = 0 then (⟨d.size, d.data, d.dur, 0, true⟩, 19)
    else (⟨d.size, d.data, d.data.length, d.left, false⟩, 0)
  else (dz, 2)
def truncF (d : Dk) (n : Int) : Dk × Int :=
  if okD d = true then
    if d.down = true then (d, 19)
    else if n < 0 ∨ (d.data.length : Int) < n then (dz, 2)
    else (⟨d.size, d.data.take n.toNat, min d.dur n, d.left, false⟩, 0)
  else (dz, 2)
def armF (d : Dk) (n : Int) : Dk × Int :=
  if okD d = true then
    if d.down = true then (d, 19)
    else if n < 0 ∨ 1048576 < n then (dz, 2)
    else (⟨d.size, d.data, d.dur, n, false⟩, 0)
  else (dz, 2)
def crashN (d : Dk) (keep : Int) : Int := d.dur + min (max keep 0) (d.data.length - d.dur)
def crashF (d : Dk) (keep : Int) : Dk :=
  if okD d = true then ⟨d.size, d.data.take (crashN d keep).toNat, crashN d keep, -1, false⟩ else d
def newF (size : Int) : Dk × Int := if 1 ≤ size ∧ size ≤ 1048576 then (⟨size, [], 0, -1, false⟩, 0) else (dz, 2)
def actF (d : Dk) (kind n : Int) (b : List Int) : Dk × Int :=
  if kind = 3 ∨ kind = 4 then syncF d else if kind = 5 then truncF d n else if kind = 6 then armF d n else if kind = 7 then (crashF d n, 0) else appF d b

theorem okD_iff (d : Dk) : okD d = true ↔ (1 ≤ d.size ∧ d.size ≤ 1048576 ∧ (d.data.length : Int) ≤ d.size ∧ 0 ≤ d.dur ∧ d.dur ≤ d.data.length ∧ -1 ≤ d.left ∧ d.left ≤ 1048576) := by
  unfold okD; exact decide_eq_true_iff
end Go.Proofs.Ytdchodjfgeglgaa
