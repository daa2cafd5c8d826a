import Derived.Test.YtlpphnhamfgmiaaText
import Derived.Test.YtlpphnhamfgmiaaPlainEnc
import Derived.Test.YtlpphnhamfgmiaaWords
import Derived.RegionTactic
import Derived.Deep.RegionLawGrows
import Derived.Laws.OwnMore
namespace Go.Proofs.Ytlpphnhamfgmiaa
open Go.ChangeShapes Go.WideShapes Go.ChangeAt Go.RowKit

/-- the ten cells of the groups -/
def grp (pre : List Int) : Array Value := (pre.map (Value.int .u8) ++ List.replicate (10 - pre.length) (Value.int .u8 0)).toArray
theorem grp_size {pre : List Int} (h : pre.length ≤ 10) : (grp pre).size = 10 := by simp [grp]; omega
theorem grp_get {pre : List Int} (h : pre.length < 10) : (grp pre)[pre.length]? = some (.int .u8 0) := by
  simp [grp, List.getElem?_append, List.getElem?_replicate]; try omega
theorem grp_set {pre : List Int} (x : Int) (h : pre.length < 10) : (grp pre).setIfInBounds pre.length (.int .u8 x) = grp (pre ++ [x]) := by
  unfold grp
  rw [List.setIfInBounds_toArray]
  congr 1
  rw [List.set_append_right _ _ (by simp)]
  have e : 10 - pre.length = (10 - (pre ++ [x]).length) + 1 := by simp; omega
  rw [e, List.replicate_succ]
  simp


theorem reads_some {w : World} {B n : Nat} {A : Option Addr} {xs : List Value} (h : Reads w B 1 A n xs) : ∀ b, A = some b → ∀ j u', xs[j]? = some u' → w.cell? (b.add j) = some u' := by
  intro b hb j u' hj
  rcases Nat.eq_zero_or_pos n with hn | hn
  · have := h.1
    rw [hn] at this
    have hx : xs = [] := List.eq_nil_of_length_eq_zero (by simpa using this)
    subst hx
    simp at hj
  · obtain ⟨ad, e, _, hc⟩ := h.2 hn
    rw [hb] at e
    injection e with e
    subst e
    exact hc j u' hj
theorem one_u8 (l : List Int) : ∀ u ∈ l.map (Value.int .u8), u.oneCell' = true := by
  intro u hu
  obtain ⟨x, _, rfl⟩ := List.mem_map.1 hu
  rfl
theorem grp_cells (w : World) (l : List Int) (t : TypeId) : ∀ j u', (l.map (Value.int .u8))[j]? = some u' → (w.alloc (Obj.cells (grp l) t)).drew.cell? ((⟨w.heap.size, 0, none⟩ : Addr).add j) = some u' := by
  intro j u' hj
  have e : (⟨w.heap.size, 0, none⟩ : Addr).add j = ⟨w.heap.size, j, none⟩ := by unfold Addr.add; split <;> simp_all
  rw [e]
  show (w.alloc (Obj.cells (grp l) t)).cell? _ = _
  rw [World.cell?_alloc_mark]
  simp only [grp, List.getElem?_toArray]
  rw [List.getElem?_append_left]
  · exact hj
  · exact (List.getElem?_eq_some_iff.1 hj).1

theorem own_base {w : World} {b b' : Nat} {e : TypeId} {size n : Nat} {v : Value} {xs : List Value} (hb : b' ≤ b) (h : w.ownsRow b e size v n xs) : w.ownsRow b' e size v n xs := by
  obtain ⟨h1, h2⟩ := h
  refine ⟨h1, ?_⟩
  rcases h2 with h2 | ⟨g, cap, cur, e1, e2, e3⟩
  · exact .inl h2
  · exact .inr ⟨g, cap, cur, e1, by omega, e3⟩

theorem u8_info : (Try.prog.info? 5).map (fun i => (i.zero, i.size, i.bytes)) = some (some (.int .u8 0), 1, 1) := by kernel_rfl

set_option maxRecDepth 100000 in
set_option maxHeartbeats 800000 in
theorem putint_row (A : Option Addr) (cap : Nat) (zs : List Int) (n : Int) (w : World) (hn0 : -9223372036854775808 ≤ n) (hn1 : n ≤ 9223372036854775807)
    (hr : Reads w w.heap.size 1 A zs.length (zs.map (Value.int .u8))) (hnil : A = none → cap = 0) (hlen : zs.length ≤ 100000) (hcap : zs.length ≤ cap) (_hcm : cap ≤ 9223372036854775807) :
    Calls Try.prog 12 #[.slice A zs.length cap, .int .i64 n] w fun e w' => ∃ v, e = .returned v ∧ w'.ownsRow w.heap.size 5 1 v (zs.length + (enc n).length) ((zs ++ enc n).map (Value.int .u8)) ∧ Below w.heap.size w w' := by
  obtain ⟨i0, hi0, hz0, hz1, hz2⟩ := info_parts u8_info
  have hzb := zig_bits hn0 hn1
  have hzl := zig_lt hn0 hn1
  go_enter Try.func12, Try.ntmps12
  go_wp2
  have hg0 : (#[Value.int IntKind.u8 0, Value.int IntKind.u8 0, Value.int IntKind.u8 0, Value.int IntKind.u8 0,
      Value.int IntKind.u8 0, Value.int IntKind.u8 0, Value.int IntKind.u8 0, Value.int IntKind.u8 0,
      Value.int IntKind.u8 0, Value.int IntKind.u8 0] : Array Value) = grp [] := rfl
  rw [hg0]
  clear hg0
  go_loopw [5, 7] (fun r i wr => ∃ (u : Nat) (pre : List Int), pre.length ≤ 9 ∧ r = .int .u64 u ∧ i = .int .i64 pre.length ∧ u < 128 ^ (10 - pre.length) ∧ u < 18446744073709551616 ∧ enc n = pre ++ encGo (9 - pre.length) u ∧ wr = w.alloc (.cells (grp pre) 42)) (fun _ i _ => 10 - (intOf i).toNat)
  case atStart => exact ⟨zig n, [], by simp, rfl, rfl, Nat.lt_of_lt_of_le hzl (by decide), hzl, rfl, rfl⟩
  case round =>
    obtain ⟨u, pre, hpl, rfl, rfl, hu, hu2, henc, rfl⟩ := hrel
    have hgs := grp_size (pre := pre) (by omega)
    have hgg := grp_get (pre := pre) (by omega)
    have Henc := Lib.hid henc
    have Hu := Lib.hid hu
    clear henc hu
    by_cases h128 : u < 128
    · have hset := grp_set (pre := pre) (u : Int) (by omega)
      have hfin : enc n = pre ++ [(u : Int)] := by rw [Henc.out, encGo_lt h128]
      go_wp2
      have Hf := Lib.hid hfin
      have Hz := Lib.hid hzb
      clear hset hfin hzb Henc
      have hw1 : IntKind.i64.wrap ((pre.length : Int) + 1) = (pre.length : Int) + 1 := by rw [IntKind.wrap_i64]; omega
      have hw2 : 0 ≤ (pre.length : Int) + 1 := by omega
      have hw4 : (pre.length : Int) + 1 ≤ 10 := by omega
      have hw3 : ((pre.length : Int) + 1).toNat = pre.length + 1 := by omega
      have s1 : A = none → zs.length = 0 ∧ zs.length = 0 := fun h => by have := hnil h; omega
      have s3 : ∀ b, A = some b → ∀ j u', (zs.map (Value.int .u8))[j]? = some u' → (w.alloc (Obj.cells (grp (pre ++ [(u : Int)])) 42)).drew.cell? (b.add j) = some u' := reads_some (hr.alloc (Nat.le_refl _) _).drew
      have s5 : ∀ j u', ((pre ++ [(u : Int)]).map (Value.int .u8))[j]? = some u' → (w.alloc (Obj.cells (grp (pre ++ [(u : Int)])) 42)).drew.cell? ((⟨w.heap.size, 0, none⟩ : Addr).add j) = some u' := grp_cells w _ 42
      have S1 := Lib.hid s1
      have S3 := Lib.hid s3
      have S5 := Lib.hid s5
      clear s1 s3 s5
      go_region_law (first
        | (refine step_append_grows rfl (.tmp 35) (.tmp 38) 22 rfl 5 i0 (.int .u8 0) 1 1 Try.underlying22 hi0 hz0 hz1 hz2 rfl (by decide) A zs.length zs.length (zs.map (Value.int .u8)) (by simp [Act.eval, Act.put]) S1.out (by simp) S3.out ⟨w.heap.size, 0, none⟩ (pre.length + 1) 10 ((pre ++ [(u : Int)]).map (Value.int .u8)) (by simp [Act.eval, Act.put]) (by simp) S5.out (one_u8 _) (by omega) (by simp only [maxLen]; omega) (by omega) ?_
           intro v' w' hown hgrow))
      go_wp2
      go_ret
      have hown' := own_base (b' := w.heap.size) (by show w.heap.size ≤ (w.heap.push _).size; rw [Array.size_push]; omega) hown
      refine ⟨v', rfl, by rw [Hf.out]; simpa using hown', ?_⟩
      exact ((Below.refl _ _).alloc (Nat.le_refl _) _).drew.grown hgrow (by simp) (by simp)
    · have hor := or128 u
      have hor' : bits .or .u8 ((u : Int) % 256) 128 = ((u % 128 + 128 : Nat) : Int) := by rw [← hor, IntKind.wrap_u8]
      have hset := grp_set (pre := pre) ((u % 128 + 128 : Nat) : Int) (by omega)
      have h9 : pre.length < 9 := by
        have := Hu.out
        rcases Nat.lt_or_ge pre.length 9 with h | h
        · exact h
        · rw [show 10 - pre.length = 1 by omega] at this; omega
      have hfin : enc n = (pre ++ [((u % 128 + 128 : Nat) : Int)]) ++ encGo (9 - (pre.length + 1)) (u / 128) := by
        rw [Henc.out, show 9 - pre.length = (9 - (pre.length + 1)) + 1 by omega, encGo_ge h128]; simp
      have Hf := Lib.hid hfin
      clear hfin Henc
      go_wp2
      refine ⟨⟨u / 128, pre ++ [((u % 128 + 128 : Nat) : Int)], by simp; omega, by go_num, by simp, ?_, by omega, by rw [Hf.out]; simp, by rw [← hset, show (((u % 128 + 128 : Nat)) : Int) = (u : Int) % 128 + 128 by omega]⟩, by simp [intOf]; omega⟩
      have := Hu.out
      rw [show 10 - pre.length = (10 - (pre ++ [((u % 128 + 128 : Nat) : Int)]).length) + 1 by simp; omega, Nat.pow_succ] at this
      omega
end Go.Proofs.Ytlpphnhamfgmiaa
