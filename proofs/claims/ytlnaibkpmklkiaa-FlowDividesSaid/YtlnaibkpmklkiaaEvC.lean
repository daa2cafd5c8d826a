/- What a value of the pure reading says of a value of the program. -/
import Derived.Test.YtlnaibkpmklkiaaEvB
namespace Go.Proofs.Ytlnaibkpmklkiaa
open Go Go.RowKit

/-- cells that are known from the beginning -/
class Bs where
  cell : Nat → Nat → Option Value
  obj : Nat → Option Obj

structure Info where
  g : Nat
  ver : Nat
  e : Nat
  n : Nat
  cap : Nat
  virt : Bool

structure Mem where
  cell : Nat → Nat → Option Value
  blk : Nat → Option Info

def OwnVal (i : Info) (lo len : Nat) (v : Value) : Prop :=
  (len = 0 ∧ i.n ≤ lo ∧ ∃ a, v = .slice a 0 0) ∨
  (i.virt = false ∧ ∃ cap, v = .slice (some ⟨i.g, lo * i.e, none⟩) len cap ∧ len ≤ cap ∧ i.n ≤ lo + cap ∧ lo + cap ≤ i.cap)

inductive Rep (m : Mem) : Nat → PV → Value → Prop
  | bool {k b} : Rep m k (.bool b) (.bool b)
  | int {k j n} : Rep m k (.int j n) (.int j n)
  | str {k s} : Rep m k (.str s.data.toList) (.string s)
  | v {k x} : Rep m k (.v x) x
  | top {k x} : Rep m k .top x
  | nn {k t x} : Rep m k .nn (.iface t x)
  | nilS {k a} : Rep m k .nilS (.slice a 0 0)
  | agg {k ps vs} : ps.length = vs.size → (∀ i p, ps[i]? = some p → Rep m k p (vs.getD i undef)) → Rep m k (.agg ps) (.agg vs)
  | tup {k ps vs} : ps.length = vs.size → (∀ i p, ps[i]? = some p → Rep m k p (vs.getD i undef)) → Rep m k (.tup ps) (.tuple vs)
  | slz {k ex e a cap} : cap ≤ maxLen → (ex = true → cap = 0) → Rep m k (.sl ex e []) (.slice a 0 cap)
  | sl {k ex e rows b off cap} {vals : Nat → Nat → Value} : rows.length ≤ cap → cap ≤ maxLen → (ex = true → cap = rows.length) → (∀ r ∈ rows, r.length = e) →
      (∀ i j row p, rows[i]? = some row → row[j]? = some p → m.cell b (off + i * e + j) = some (vals i j)) →
      (∀ i j row p, rows[i]? = some row → row[j]? = some p → Rep m 0 p (vals i j)) → Rep m k (.sl ex e rows) (.slice (some ⟨b, off, none⟩) rows.length cap)
  | cptr {k cells b off} {vals : Nat → Value} : (∀ j p, cells[j]? = some p → m.cell b (off + j) = some (vals j)) → (∀ j p, cells[j]? = some p → Rep m 0 p (vals j)) →
      Rep m k (.cptr cells) (.pointer (some ⟨b, off, none⟩))
  | own {k b ver lo len v i} : b < k → m.blk b = some i → ver ≤ i.ver → v.oneCell' = true → (i.ver = ver → OwnVal i lo len v) → Rep m k (.own b ver lo len) v
  | ptr {k b ver r off v i} : b < k → m.blk b = some i → ver ≤ i.ver → v.oneCell' = true → (i.ver = ver → i.virt = false → v = .pointer (some ⟨i.g, r * i.e + off, none⟩)) → Rep m k (.ptr b ver r off) v
  | mp {k b ver v i} : b < k → m.blk b = some i → ver ≤ i.ver → v.oneCell' = true → (i.ver = ver → v = .map (some i.g)) → Rep m k (.mp b ver) v
  | fn {k f ps vs} : ps.length = vs.size → (∀ i p, ps[i]? = some p → Rep m k p (vs.getD i undef)) → Rep m k (.fn f ps) (.func (.func f) #[] vs)

structure MLe (k : Nat) (m m' : Mem) : Prop where
  cell : ∀ b o v, m.cell b o = some v → m'.cell b o = some v
  blk : ∀ b i, b < k → m.blk b = some i → ∃ i', m'.blk b = some i' ∧ (i' = i ∨ i.ver < i'.ver)

theorem MLe.refl (k : Nat) (m : Mem) : MLe k m m := ⟨fun _ _ _ h => h, fun _ i _ h => ⟨i, h, .inl rfl⟩⟩
theorem MLe.trans {k : Nat} {a b c : Mem} (h : MLe k a b) (h' : MLe k b c) : MLe k a c :=
  ⟨fun x o v e => h'.cell _ _ _ (h.cell _ _ _ e), fun x i hx e => by
    obtain ⟨i1, e1, h1⟩ := h.blk x i hx e
    obtain ⟨i2, e2, h2⟩ := h'.blk x i1 hx e1
    refine ⟨i2, e2, ?_⟩
    rcases h1 with rfl | h1 <;> rcases h2 with rfl | h2
    · exact .inl rfl
    · exact .inr h2
    · exact .inr h1
    · exact .inr (Nat.lt_trans h1 h2)⟩
theorem MLe.le {k j : Nat} {m m' : Mem} (h : MLe k m m') (hj : j ≤ k) : MLe j m m' := ⟨h.cell, fun b i hb => h.blk b i (Nat.lt_of_lt_of_le hb hj)⟩

theorem Rep.mono {m m' : Mem} {k : Nat} {p : PV} {v : Value} (h : Rep m k p v) : MLe k m m' → Rep m' k p v := by
  induction h with
  | bool => exact fun _ => .bool
  | int => exact fun _ => .int
  | str => exact fun _ => .str
  | v => exact fun _ => .v
  | top => exact fun _ => .top
  | nn => exact fun _ => .nn
  | nilS => exact fun _ => .nilS
  | agg hl _ ih => exact fun hm => .agg hl fun i p hp => ih i p hp hm
  | tup hl _ ih => exact fun hm => .tup hl fun i p hp => ih i p hp hm
  | fn hl _ ih => exact fun hm => .fn hl fun i p hp => ih i p hp hm
  | slz h1 h2 => exact fun _ => .slz h1 h2
  | sl h1 h2 h3 h4 hc _ ih => exact fun hm => .sl h1 h2 h3 h4 (fun i j row p hr hp => hm.cell _ _ _ (hc i j row p hr hp)) (fun i j row p hr hp => ih i j row p hr hp (hm.le (Nat.zero_le _)))
  | cptr hc _ ih => exact fun hm => .cptr (fun j p hp => hm.cell _ _ _ (hc j p hp)) (fun j p hp => ih j p hp (hm.le (Nat.zero_le _)))
  | own hb hi hv h1 ho =>
    intro hm
    obtain ⟨i', hi', hh⟩ := hm.blk _ _ hb hi
    rcases hh with rfl | hh
    · exact .own hb hi' hv h1 ho
    · exact .own hb hi' (by omega) h1 (fun e => by omega)
  | ptr hb hi hv h1 ho =>
    intro hm
    obtain ⟨i', hi', hh⟩ := hm.blk _ _ hb hi
    rcases hh with rfl | hh
    · exact .ptr hb hi' hv h1 ho
    · exact .ptr hb hi' (by omega) h1 (fun e => by omega)
  | mp hb hi hv h1 ho =>
    intro hm
    obtain ⟨i', hi', hh⟩ := hm.blk _ _ hb hi
    rcases hh with rfl | hh
    · exact .mp hb hi' hv h1 ho
    · exact .mp hb hi' (by omega) h1 (fun e => by omega)

theorem Rep.up {m : Mem} {k k' : Nat} {p : PV} {v : Value} (h : Rep m k p v) : k ≤ k' → Rep m k' p v := by
  induction h with
  | bool => exact fun _ => .bool
  | int => exact fun _ => .int
  | str => exact fun _ => .str
  | v => exact fun _ => .v
  | top => exact fun _ => .top
  | nn => exact fun _ => .nn
  | nilS => exact fun _ => .nilS
  | agg hl _ ih => exact fun hm => .agg hl fun i p hp => ih i p hp hm
  | tup hl _ ih => exact fun hm => .tup hl fun i p hp => ih i p hp hm
  | fn hl _ ih => exact fun hm => .fn hl fun i p hp => ih i p hp hm
  | slz h1 h2 => exact fun _ => .slz h1 h2
  | sl h1 h2 h3 h4 hc hr _ => exact fun _ => .sl h1 h2 h3 h4 hc hr
  | cptr hc hr _ => exact fun _ => .cptr hc hr
  | own hb hi hv h1 ho => exact fun hk => .own (Nat.lt_of_lt_of_le hb hk) hi hv h1 ho
  | ptr hb hi hv h1 ho => exact fun hk => .ptr (Nat.lt_of_lt_of_le hb hk) hi hv h1 ho
  | mp hb hi hv h1 ho => exact fun hk => .mp (Nat.lt_of_lt_of_le hb hk) hi hv h1 ho

theorem ltL_all {k : Nat} : ∀ {l : List PV}, PV.lt.ltL k l = true → ∀ (i : Nat) (p : PV), l[i]? = some p → p.lt k = true
  | [], _, i, p, hp => by simp at hp
  | q :: r, h, i, p, hp => by
    simp only [PV.lt.ltL, Bool.and_eq_true] at h
    cases i with
    | zero => simp at hp; exact hp ▸ h.1
    | succ i => exact ltL_all h.2 i p (by simpa using hp)

/-- what refers to blocks below j alone -/
theorem Rep.down {m : Mem} {k : Nat} {p : PV} {v : Value} (h : Rep m k p v) : ∀ {j : Nat}, p.lt j = true → Rep m j p v := by
  induction h with
  | bool => exact fun _ => .bool
  | int => exact fun _ => .int
  | str => exact fun _ => .str
  | v => exact fun _ => .v
  | top => exact fun _ => .top
  | nn => exact fun _ => .nn
  | nilS => exact fun _ => .nilS
  | agg hl _ ih => exact fun hj => .agg hl fun i p hp => ih i p hp (ltL_all (by simpa [PV.lt] using hj) i p hp)
  | tup hl _ ih => exact fun hj => .tup hl fun i p hp => ih i p hp (ltL_all (by simpa [PV.lt] using hj) i p hp)
  | fn hl _ ih => exact fun hj => .fn hl fun i p hp => ih i p hp (ltL_all (by simpa [PV.lt] using hj) i p hp)
  | slz h1 h2 => exact fun _ => .slz h1 h2
  | sl h1 h2 h3 h4 hc hr _ => exact fun _ => .sl h1 h2 h3 h4 hc hr
  | cptr hc hr _ => exact fun _ => .cptr hc hr
  | own hb hi hv h1 ho => intro j hj; exact .own (by simpa [PV.lt, Nat.blt_eq] using hj) hi hv h1 ho
  | ptr hb hi hv h1 ho => intro j hj; exact .ptr (by simpa [PV.lt, Nat.blt_eq] using hj) hi hv h1 ho
  | mp hb hi hv h1 ho => intro j hj; exact .mp (by simpa [PV.lt, Nat.blt_eq] using hj) hi hv h1 ho

/-- closed values don't look at the blocks -/
theorem Rep.re {m m' : Mem} {p : PV} {v : Value} (h : Rep m 0 p v) (hc : ∀ b o v, m.cell b o = some v → m'.cell b o = some v) : Rep m' 0 p v :=
  h.mono ⟨hc, fun _ _ hb => absurd hb (by omega)⟩

theorem noMemL_all : ∀ {l : List PV}, PV.noMem.noMemL l = true → ∀ (i : Nat) (p : PV), l[i]? = some p → p.noMem = true
  | [], _, i, p, hp => by simp at hp
  | q :: r, h, i, p, hp => by
    simp only [PV.noMem.noMemL, Bool.and_eq_true] at h
    cases i with
    | zero => simp at hp; exact hp ▸ h.1
    | succ i => exact noMemL_all h.2 i p (by simpa using hp)
theorem noMemLL_all : ∀ {l : List (List PV)}, PV.noMem.noMemLL l = true → ∀ r ∈ l, PV.noMem.noMemL r = true
  | [], _, r, hp => by simp at hp
  | q :: l, h, r, hp => by
    simp only [PV.noMem.noMemLL, Bool.and_eq_true] at h
    rcases List.mem_cons.1 hp with rfl | hp
    · exact h.1
    · exact noMemLL_all h.2 r hp

/-- what speaks of no memory holds over any -/
theorem Rep.free {m : Mem} {k : Nat} {p : PV} {v : Value} (h : Rep m k p v) : ∀ {m' : Mem}, p.noMem = true → Rep m' 0 p v := by
  induction h with
  | bool => exact fun _ => .bool
  | int => exact fun _ => .int
  | str => exact fun _ => .str
  | v => exact fun _ => .v
  | top => exact fun _ => .top
  | nn => exact fun _ => .nn
  | nilS => exact fun _ => .nilS
  | agg hl _ ih => exact fun hj => .agg hl fun i p hp => ih i p hp (noMemL_all (by simpa [PV.noMem] using hj) i p hp)
  | tup hl _ ih => exact fun hj => .tup hl fun i p hp => ih i p hp (noMemL_all (by simpa [PV.noMem] using hj) i p hp)
  | fn hl _ ih => exact fun hj => .fn hl fun i p hp => ih i p hp (noMemL_all (by simpa [PV.noMem] using hj) i p hp)
  | slz h1 h2 => exact fun _ => .slz h1 h2
  | sl h1 h2 h3 h4 hc hr _ =>
    intro m' hj
    simp [PV.noMem] at hj
    subst hj
    exact .slz h2 (by simpa using h3)
  | cptr hc hr _ => exact fun hj => by simp [PV.noMem] at hj
  | own hb hi hv h1 ho => exact fun hj => by simp [PV.noMem] at hj
  | ptr hb hi hv h1 ho => exact fun hj => by simp [PV.noMem] at hj
  | mp hb hi hv h1 ho => exact fun hj => by simp [PV.noMem] at hj

theorem rep_ofVal (m : Mem) (x : Value) : Rep m 0 (ofVal x) x := by
  cases x with
  | slice a n c => cases a with
    | none =>
      by_cases h : n = 0 ∧ c = 0
      · obtain ⟨rfl, rfl⟩ := h; exact .nilS
      · unfold ofVal; split <;> first | exact .v | simp_all
    | some a => exact .v
  | func f a c => cases f with
    | func f =>
      unfold ofVal
      simp only
      split
      · rename_i h
        obtain ⟨h1, h2⟩ := h
        have e1 : a = #[] := Array.eq_empty_of_size_eq_zero h1
        have e2 : c = #[] := Array.eq_empty_of_size_eq_zero h2
        subst e1 e2
        exact .fn rfl (fun i p hp => by simp at hp)
      · exact .v
    | _ => exact .v
  | _ => first | exact .bool | exact .int | exact .str | exact .v

theorem leaf_one {m : Mem} {k : Nat} {p : PV} {v : Value} (h : Rep m k p v) (hl : p.leaf = true) : v.oneCell' = true := by
  cases h <;> first
    | rfl
    | (simp [PV.leaf] at hl; done)
    | exact hl
    | assumption

end Go.Proofs.Ytlnaibkpmklkiaa
