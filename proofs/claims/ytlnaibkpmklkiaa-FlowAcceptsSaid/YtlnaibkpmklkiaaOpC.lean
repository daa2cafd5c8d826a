/- flow.Open as a given function: whatever the order in which the map is ranged over, the numbers come out sorted. -/
import Derived.Test.YtlnaibkpmklkiaaOpB
import Derived.Test.YtlnaibkpmklkiaaSs
import Derived.Test.YtlnaibkpmklkiaaEvWp
namespace Go.Proofs.Ytlnaibkpmklkiaa
open Go Go.RowKit
set_option linter.unusedVariables false
set_option linter.unusedSimpArgs false
set_option linter.unusedSectionVars false

/-- what it calls -/
def DSort (f : Nat) : Option AFn := if Nat.beq f 26 then some ⟨1, 0, [], .skip, some (.s xSort)⟩ else none
theorem DSortok [Bs] : DOk Try.prog DSort := by
  intro f fc h
  unfold DSort at h
  split at h
  · rename_i hb
    rw [Nat.eq_of_beq_eq_true hb]
    cases h
    exact ext26
  · cases h
theorem s26 {args : List PV} {bl : Blks} {r : PV × Blks} (h : xSort args bl = some r) : evS DSort 26 args bl = some r := evS_ext (D := DSort) (fc := ⟨1, 0, [], .skip, some (.s xSort)⟩) rfl rfl h

def tmOf : List PV → Option Tm
  | [.int .i64 a, .int .i64 b, .int .i64 c, .int .i64 d, .str s, .int .i64 n, .int .i64 g, fs, .int .i64 lo, .int .i64 hi] => if h : fs.leaf = true ∧ fs.lt 0 = true then some ⟨a, b, c, d, s, n, g, fs, lo, hi, h.1, h.2⟩ else none
  | _ => none
def tmsOf : List (List PV) → Option (List Tm)
  | [] => some []
  | r :: rs => match tmOf r, tmsOf rs with
    | some t, some l => some (t :: l)
    | _, _ => none
theorem tmOf_eq {r : List PV} {t : Tm} (h : tmOf r = some t) : r = tRow t := by
  unfold tmOf at h
  split at h
  · split at h
    · cases h; rfl
    · cases h
  · cases h
theorem tmOf_row (t : Tm) : tmOf (tRow t) = some t := by
  unfold tRow tmOf
  simp only
  rw [dif_pos ⟨t.h1, t.h2⟩]
theorem tmsOf_eq : ∀ {rs : List (List PV)} {l : List Tm}, tmsOf rs = some l → rs = tRows l
  | [], l, h => by simp [tmsOf] at h; subst h; rfl
  | r :: rs, l, h => by
    simp only [tmsOf] at h
    split at h
    · rename_i t l' h1 h2
      cases h
      rw [tmOf_eq h1, tmsOf_eq h2]; rfl
    · cases h
theorem tmsOf_rows : ∀ l : List Tm, tmsOf (tRows l) = some l
  | [] => rfl
  | t :: l => by
    have := tmsOf_rows l
    simp only [tRows, List.map_cons, tmsOf] at this ⊢
    rw [tmOf_row, this]
/-- flow.Open, as it is given -/
def openX : List PV → Option PV
  | [.sl ex e rows] => if e = 10 then match tmsOf rows with
      | some l => if l.length ≤ 100000 then some (.fr 1 (intRows (sortZ (opens l)))) else none
      | none => none
    else none
  | _ => none
theorem openX_inv {args : List PV} {r : PV} (h : openX args = some r) : ∃ ex l, args = [.sl ex 10 (tRows l)] ∧ l.length ≤ 100000 ∧ r = .fr 1 (intRows (sortZ (opens l))) := by
  unfold openX at h
  split at h
  · rename_i ex e rows
    split at h
    · rename_i he
      subst he
      split at h
      · rename_i l hl
        split at h
        · cases h
          exact ⟨ex, l, by rw [tmsOf_eq hl], by assumption, rfl⟩
        · cases h
      · cases h
    · cases h
  · cases h

theorem opens_len (l : List Tm) : (opens l).length ≤ l.length := by
  have key : ∀ (l : List Tm) (ks : List Int), (l.foldl opStep ks).length ≤ ks.length + l.length := by
    intro l
    induction l with
    | nil => intro ks; simp
    | cons t l ih =>
      intro ks
      have h := ih (opStep ks t)
      have h2 : (opStep ks t).length ≤ ks.length + 1 := by
        unfold opStep
        split
        · split <;> simp
        · split
          · have := List.length_erase_le (a := t.n) (l := ks); omega
          · omega
      simp only [List.foldl_cons, List.length_cons]
      omega
  simpa [opens] using key l []

def keyZ (e : MapEntry) : Int := match e.key with | .int _ n => n | _ => 0
theorem mapin_keys [Bs] {m : Mem} {k : Nat} {ks : List Int} {es : Array MapEntry} (h : MapIn m k (mRows ks) es) : es.toList.map keyZ = ks ∧ ∀ e ∈ es.toList, ofVal e.key = .int .i64 (keyZ e) := by
  obtain ⟨h1, h2⟩ := h
  have hl : es.size = ks.length := by rw [h1]; simp [mRows]
  have key : ∀ i, i < ks.length → ∃ e, es[i]? = some e ∧ ∃ n, ks[i]? = some n ∧ e.key = .int .i64 n := by
    intro i hi
    obtain ⟨kp, vp, e, g1, g2, g3, g4⟩ := h2 i [.int .i64 ks[i], .bool true] (by simp [mRows, hi])
    simp only [List.cons.injEq, and_true] at g1
    obtain ⟨rfl, rfl⟩ := g1
    exact ⟨e, g2, ks[i], by simp [hi], int_inv g3⟩
  refine ⟨?_, fun e he => ?_⟩
  · apply List.ext_getElem?
    intro i
    by_cases hi : i < ks.length
    · obtain ⟨e, g1, n, g2, g3⟩ := key i hi
      rw [List.getElem?_map, Array.getElem?_toList, g1, g2]
      simp [keyZ, g3]
    · rw [List.getElem?_eq_none (by simp; omega), List.getElem?_eq_none (by omega)]
  · obtain ⟨i, hi⟩ := List.getElem?_of_mem he
    rw [Array.getElem?_toList] at hi
    have hlt := (Array.getElem?_eq_some_iff.1 hi).1
    obtain ⟨e', g1, n, g2, g3⟩ := key i (by omega)
    rw [hi] at g1
    cases g1
    simp [keyZ, g3, ofVal]

def S3 (g r : Nat) (es : Array MapEntry) (clock : Nat) (o : List MapEntry) : St :=
  ⟨[.top, .top, .top, .mp 1 0, .top, .top, .own 2 o.length 0 o.length] ++ List.replicate 25 .top ++ [.ptr 3 0 0 0] ++ List.replicate 11 .top,
   [some ⟨0, 1, true, []⟩, exB 0 g (.map es clock), some ⟨o.length, 1, true, intRows (o.map keyZ)⟩, exB 0 r (.mapIter (some g) clock (o.map (·.born)).toArray clock)]⟩
/-- the order so far -/
structure Ord (es : Array MapEntry) (o : List MapEntry) : Prop where
  sub : ∀ e ∈ o, e ∈ es.toList
  nod : (o.map (·.born)).Nodup
theorem nodup_of_map {α β : Type} (f : α → β) : ∀ {l : List α}, (l.map f).Nodup → l.Nodup
  | [], _ => .nil
  | a :: l, h => by
    obtain ⟨h1, h2⟩ := List.nodup_cons.1 h
    exact List.nodup_cons.2 ⟨fun hm => h1 (List.mem_map.2 ⟨a, hm, rfl⟩), nodup_of_map f h2⟩
theorem Ord.len {es : Array MapEntry} {o : List MapEntry} (h : Ord es o) : o.length ≤ es.size := by
  have : ∀ (o l : List MapEntry), o.Nodup → (∀ e ∈ o, e ∈ l) → o.length ≤ l.length := by
    intro o
    induction o with
    | nil => intro l _ _; simp
    | cons a o ih =>
      intro l hn hs
      obtain ⟨h1, h2⟩ := List.nodup_cons.1 hn
      obtain ⟨s, t, rfl⟩ := List.append_of_mem (hs a (by simp))
      have := ih (s ++ t) h2 (fun e he => by
        have hm := hs e (by simp [he])
        simp only [List.mem_append, List.mem_cons] at hm ⊢
        rcases hm with hm | rfl | hm
        · exact .inl hm
        · exact absurd he h1
        · exact .inr hm)
      simp only [List.length_append, List.length_cons] at this ⊢
      omega
  simpa using this o es.toList (nodup_of_map _ h.nod) h.sub
theorem Ord.add {es : Array MapEntry} {o : List MapEntry} {e : MapEntry} (h : Ord es o) (he : e ∈ (leftOf es (o.map (·.born)).toArray).toList) : Ord es (o ++ [e]) := by
  obtain ⟨h1, h2⟩ := mem_left he
  refine ⟨fun x hx => ?_, ?_⟩
  · rcases List.mem_append.1 hx with hx | hx
    · exact h.sub x hx
    · simp at hx; subst hx; exact h1
  · rw [List.map_append, List.nodup_append]
    refine ⟨h.nod, by simp, fun a ha b hb => ?_⟩
    simp at hb
    subst hb
    rintro rfl
    simp at h2
    obtain ⟨x, hx, hxe⟩ := List.mem_map.1 ha
    exact h2 x hx hxe
theorem Ord.full {es : Array MapEntry} {clock : Nat} {o : List MapEntry} (h : Ord es o) (hb : BornOk es clock) (h0 : (leftOf es (o.map (·.born)).toArray).size = 0) : o.Perm es.toList := by
  rw [List.perm_ext_iff_of_nodup (nodup_of_map _ h.nod) (nodup_of_map _ hb.2)]
  intro e
  refine ⟨h.sub e, fun he => ?_⟩
  have := all_seen es _ h0 e he
  simp at this
  obtain ⟨x, hx, hxe⟩ := this
  have := born_inj hb.2 (h.sub x hx) he hxe
  subst this
  exact hx
theorem left_smaller {es : Array MapEntry} {o : List MapEntry} {e : MapEntry} (he : e ∈ (leftOf es (o.map (·.born)).toArray).toList) : (leftOf es ((o ++ [e]).map (·.born)).toArray).size < (leftOf es (o.map (·.born)).toArray).size := by
  have := left_shrinks es (o.map (·.born)).toArray e he
  simpa using this
theorem intRows_add (o : List MapEntry) (e : MapEntry) : intRows (o.map keyZ) ++ [[.int .i64 (keyZ e)]] = intRows ((o ++ [e]).map keyZ) := by simp [intRows]
theorem intRows_len (zs : List Int) : (intRows zs).length = zs.length := by simp [intRows]
theorem born_arr (o : List MapEntry) (e : MapEntry) : ((o.map (·.born)).toArray.push e.born) = ((o ++ [e]).map (·.born)).toArray := by simp
end Go.Proofs.Ytlnaibkpmklkiaa
