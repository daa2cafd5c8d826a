/- What the laws use of texts: reading back, prefixes. -/
import Derived.Test.YtlpphnhamfgmiaaPutText
import Derived.Test.YtlpphnhamfgmiaaPlainBack
namespace Go.Proofs.Ytlpphnhamfgmiaa
open Go.ChangeShapes Go.WideShapes Go.ChangeAt Go.RowKit

theorem nums_in (s : ByteArray) : InB (nums s) := by
  intro z hz
  unfold nums at hz
  obtain ⟨b, _, rfl⟩ := List.mem_map.1 hz
  have := b.toNat_lt
  omega
theorem InB.append {l m : List Int} (hl : InB l) (hm : InB m) : InB (l ++ m) := fun z hz => by
  rcases List.mem_append.1 hz with h | h
  · exact hl z h
  · exact hm z h
theorem InB.drop {l : List Int} (h : InB l) (k : Nat) : InB (l.drop k) := fun z hz => h z (List.mem_of_mem_drop hz)
theorem InB.nil : InB [] := fun z hz => by cases hz

theorem strOfNums_nums (s : ByteArray) : strOfNums (nums s) = s := by
  unfold strOfNums nums
  rw [List.map_map]
  have : (fun n : Int => UInt8.ofNat n.toNat) ∘ (fun b : UInt8 => (b.toNat : Int)) = id := by
    funext b; simp
  rw [this, List.map_id]
theorem nums_strOfNums {l : List Int} (h : InB l) : nums (strOfNums l) = l := by
  unfold strOfNums nums
  simp only [List.map_map]
  conv => rhs; rw [← List.map_id l]
  apply List.map_congr_left
  intro z hz
  have := h z hz
  have e : (UInt8.ofNat z.toNat).toNat = z.toNat := by rw [UInt8.toNat_ofNat']; omega
  simp [e]; omega

theorem Made.brow {B : Nat} {w : World} {g N c : Nat} {zs : List Int} (h : Made B w g N c zs) : BRow w (some ⟨g, 0, none⟩) zs := brow_new h.cell
theorem Made.prefix {B : Nat} {w : World} {g N c : Nat} {zs : List Int} (h : Made B w g N c zs) (k : Nat) : BRow w (some ⟨g, 0, none⟩) (zs.take k) :=
  brow_new fun j hj => by
    have h2 : j < k ∧ j < zs.length := by simp at hj; omega
    rw [h.cell j h2.2]
    simp [List.getD, h2.1]
theorem Made.keep {B : Nat} {w w' : World} {g N c : Nat} {zs : List Int} (h : Made B w g N c zs) (hb : Below w.heap.size w w') : Made B w' g N c zs :=
  ⟨h.len, h.le, h.max, h.lo, Nat.lt_of_lt_of_le h.lt hb.size, fun j hj => by rw [hb.cell (p := ⟨g, j, none⟩) h.lt]; exact h.cell j hj⟩

/-- the encoding of a text -/
def encT (s : ByteArray) : List Int := enc s.size ++ nums s
theorem encT_in {s : ByteArray} (h : s.size ≤ 100000) : InB (encT s) := (enc_in (by omega) (by omega)).append (nums_in s)
theorem encT_length (s : ByteArray) : (encT s).length = (enc s.size).length + s.size := by
  unfold encT; rw [List.length_append, nums_length]

theorem decText_back {s : ByteArray} (h : s.size ≤ 100000) (more : List Int) (most : Int) :
    decText (encT s ++ more) most = if most < s.size then ([], 0, 7) else (nums s, ((encT s).length : Int), 0) := by
  have hd : dec (encT s ++ more) = ((s.size : Int), ((enc s.size).length : Int), 0) := by
    unfold encT; rw [List.append_assoc]; exact dec_back (by omega) (by omega) _
  have hl := encT_length s
  unfold decText
  rw [hd]
  simp only [ne_eq, not_true_eq_false, if_false]
  rw [if_neg (by omega)]
  by_cases hm : most < (s.size : Int)
  · rw [if_pos hm, if_pos hm]
  · rw [if_neg hm, if_neg hm, if_neg (by rw [List.length_append]; omega)]
    have e : List.take (s.size : Int).toNat (List.drop (((enc s.size).length : Nat) : Int).toNat (encT s ++ more)) = nums s := by
      rw [Int.toNat_natCast, Int.toNat_natCast]
      unfold encT
      rw [List.append_assoc, List.drop_append_of_le_length (Nat.le_refl _), List.drop_length, List.nil_append, ← nums_length, List.take_append_of_le_length (Nat.le_refl _), List.take_length]
    rw [e]
    congr 2
    omega

theorem decText_unique {zs l : List Int} {most wh : Int} (hin : InB zs) (h : decText zs most = (l, wh, 0)) :
    1 ≤ wh ∧ wh ≤ zs.length ∧ encT (strOfNums l) = zs.take wh.toNat ∧ l.length ≤ zs.length ∧ InB l := by
  unfold decText at h
  split at h
  · rename_i hne
    simp only [Prod.mk.injEq] at h
    exact absurd h.2.2 hne
  · rename_i he
    have he' : (dec zs).2.2 = 0 := by simpa using he
    split at h
    · simp at h
    · split at h
      · simp at h
      · split at h
        · simp at h
        · rename_i h1 h2 h3
          simp only [Prod.mk.injEq, and_true] at h
          obtain ⟨hl, hw⟩ := h
          generalize hd : dec zs = r at *
          obtain ⟨v, k, e⟩ := r
          simp only at he' h1 h2 h3 hl hw
          subst he'
          obtain ⟨a1, a2, a3, a4, a5⟩ := dec_unique hin hd
          have hll : l.length = v.toNat := by rw [← hl, List.length_take, List.length_drop]; omega
          have hinl : InB l := by rw [← hl]; exact (hin.drop _).take _
          refine ⟨by omega, by omega, ?_, by omega, hinl⟩
          unfold encT
          rw [nums_strOfNums hinl, strOfNums_size, hll, show ((v.toNat : Nat) : Int) = v by omega, a5, ← hl, ← List.take_add]
          congr 1
          omega

theorem decText_short {s : ByteArray} (h : s.size ≤ 300) {k : Nat} (hk : k < (encT s).length) : decText ((encT s).take k) 300 = ([], 0, 8) := by
  have hl := encT_length s
  by_cases h1 : k < (enc s.size).length
  · have e : (encT s).take k = (enc s.size).take k := by
      unfold encT; rw [List.take_append_of_le_length (by omega)]
    have hd := dec_short_of (n := s.size) h1
    unfold decText
    rw [e, hd]
    rfl
  · have e : (encT s).take k = enc s.size ++ (nums s).take (k - (enc s.size).length) := by
      unfold encT; rw [List.take_append, List.take_of_length_le (by omega)]
    have hd := dec_back (n := s.size) (by omega) (by omega) ((nums s).take (k - (enc s.size).length))
    unfold decText
    rw [e, hd]
    simp only [ne_eq, not_true_eq_false, if_false]
    rw [if_neg (by omega), if_neg (by omega), if_pos]
    rw [List.length_append, List.length_take, nums_length]
    omega
theorem own_empty (W : World) (B : Nat) (hB : B ≤ W.heap.size) : (W.alloc (.cells #[] 5)).ownsRow B 5 1 (.slice (some ⟨W.heap.size, 0, none⟩) 0 0) 0 [] :=
  ⟨rfl, .inr ⟨W.heap.size, 0, #[], rfl, hB, heap_new _ _, Nat.le_refl _, by decide, rfl, rfl⟩⟩
theorem Made.reads {B : Nat} {w : World} {g N c : Nat} {zs : List Int} (h : Made B w g N c zs) : Reads w w.heap.size 1 (some ⟨g, 0, none⟩) N (zs.map (Value.int .u8)) := by
  refine ⟨by rw [List.length_map, h.len, Nat.mul_one], fun _ => ⟨_, rfl, h.lt, fun j u hj => ?_⟩⟩
  have hj' : j < zs.length := by
    have := (List.getElem?_eq_some_iff.1 hj).1
    simpa using this
  have e : (⟨g, 0, none⟩ : Addr).add j = ⟨g, j, none⟩ := by unfold Addr.add; split <;> simp_all
  rw [e, h.cell j hj', ← hj]
  simp [List.getD, hj']
theorem Arg.take {w : World} {a : Option Addr} {cap : Nat} {zs : List Int} (h : Arg w a cap zs) (k : Nat) : BRow w a (zs.take k) := by
  rcases h.row with rfl | ⟨b, off, rfl, hc⟩
  · exact .inl (by simp)
  · refine .inr ⟨b, off, rfl, fun j hj => ?_⟩
    have h2 : j < k ∧ j < zs.length := by simp at hj; omega
    rw [hc j h2.2]
    simp [List.getD, h2.1]
theorem made_of_own {B : Nat} {w : World} {v : Value} {n : Nat} {zs : List Int} (h : w.ownsRow B 5 1 v n (zs.map (Value.int .u8))) (hn : 0 < n) : ∃ g c, v = .slice (some ⟨g, 0, none⟩) n c ∧ Made B w g n c zs := by
  obtain ⟨g, c, rfl, h1, h2, h3, h4, h5, h6⟩ := own_slice h hn
  exact ⟨g, c, rfl, ⟨h1, h2, h3, h4, h5, h6⟩⟩
end Go.Proofs.Ytlpphnhamfgmiaa
namespace Go.Proofs.Ytlpphnhamfgmiaa
open Go.ChangeShapes Go.WideShapes Go.ChangeAt Go.RowKit
/-- the argument still lies there -/
def ConvK (w : World) (a : Option Addr) (cap : Nat) (zs : List Int) (k : Nat) (W : World) : Prop := Arg W a cap zs ∧ k ≤ zs.length ∧ Below w.heap.size w W
def ConvS (w : World) (a : Option Addr) (cap : Nat) (zs : List Int) (k : Nat) (W : World) : Prop :=
  (convert 22 9 (.slice a k cap)).run Try.prog W = .ok (.string (strOfNums (zs.take k))) W ∧ ConvK w a cap zs k W
theorem ConvK.s {w : World} {a : Option Addr} {cap : Nat} {zs : List Int} {k : Nat} {W : World} (h : ConvK w a cap zs k W) : ConvS w a cap zs k W :=
  ⟨conv_row (h.1.take k) k cap (by rw [List.length_take]; have := h.2.1; omega), h⟩
theorem convS_start (w : World) (a : Option Addr) (cap : Nat) (zs : List Int) (k : Nat) (h : Arg w a cap zs) (hk : k ≤ zs.length) : ConvS w a cap zs k w.drew :=
  ConvK.s ⟨h.keep (Below.refl _ _).drew, hk, (Below.refl _ _).drew⟩
theorem ConvK.keep {w : World} {a : Option Addr} {cap : Nat} {zs : List Int} {k : Nat} {W W' : World} (h : ConvK w a cap zs k W) (hb : Below W.heap.size W W') : ConvK w a cap zs k W' :=
  ⟨h.1.keep hb, h.2.1, h.2.2.trans (hb.mono h.2.2.size)⟩
theorem putint_unique (w : World) (a : Option Addr) (cap : Nat) (zs : List Int) (k : Nat) (v : Int) (W : World) (h0 : -9223372036854775808 ≤ v) (h1 : v ≤ 9223372036854775807) (he : enc v = zs.take k) (hs : ConvS w a cap zs k W) :
    Calls Try.prog 12 #[.slice none 0 0, .int .i64 v] W fun e w' => ∃ (g c : Nat), e = .returned (.slice (some ⟨g, 0, none⟩) k c) ∧ (convert 22 9 (.slice (some ⟨g, 0, none⟩) k c)).run Try.prog w' = .ok (.string (strOfNums (zs.take k))) w' ∧ ConvS w a cap zs k w' := by
  have hk := hs.2
  have hl : (enc v).length = k := by rw [he, List.length_take]; have := hk.2.1; omega
  refine (putint_made none 0 [] v W k (by simp [hl]) h0 h1 Reads.none_ (fun _ => rfl) (by simp) (by simp) (by decide)).mono ?_
  rintro e W2 ⟨g, c, rfl, hm, hb⟩
  refine ⟨g, c, rfl, ?_, (hk.keep hb).s⟩
  have := conv_row hm.brow k c hm.len
  rw [List.nil_append, he] at this
  exact this
theorem puttext_unique (w : World) (a : Option Addr) (cap : Nat) (zs : List Int) (k : Nat) (s : ByteArray) (W : World) (hsz : s.size ≤ 100000) (he : encT s = zs.take k) (hs : ConvS w a cap zs k W) :
    Calls Try.prog 13 #[.slice none 0 0, .string s] W fun e w' => ∃ (g c : Nat), e = .returned (.slice (some ⟨g, 0, none⟩) k c) ∧ (convert 22 9 (.slice (some ⟨g, 0, none⟩) k c)).run Try.prog w' = .ok (.string (strOfNums (zs.take k))) w' ∧ ConvS w a cap zs k w' := by
  have hk := hs.2
  have hl : (encT s).length = k := by rw [he, List.length_take]; have := hk.2.1; omega
  refine (puttext_row none 0 [] s W k (by rw [← hl, encT_length]; simp) hsz Reads.none_ (fun _ => rfl) (by simp) (by simp) (by decide)).mono ?_
  rintro e W2 ⟨g, c, rfl, hm, hb⟩
  refine ⟨g, c, rfl, ?_, (hk.keep hb).s⟩
  have := conv_row hm.brow k c hm.len
  rw [List.nil_append] at this
  rw [← he]
  exact this
theorem decText_err {zs l : List Int} {most wh f : Int} (h : decText zs most = (l, wh, f)) : f = 0 ∨ f = 7 ∨ f = 8 ∨ f = 10 := by
  rcases dec_cases zs with hd | hd | ⟨N, k, hd, _⟩ <;> unfold decText at h <;> rw [hd] at h
  · simp at h; exact .inr (.inr (.inl h.2.2.symm))
  · simp at h; exact .inr (.inr (.inr h.2.2.symm))
  · simp only [ne_eq, not_true_eq_false, if_false] at h
    split at h
    · simp at h; exact .inr (.inr (.inr h.2.2.symm))
    · split at h
      · simp at h; exact .inr (.inl h.2.2.symm)
      · split at h
        · simp at h; exact .inr (.inr (.inl h.2.2.symm))
        · simp at h; exact .inl h.2.2.symm
end Go.Proofs.Ytlpphnhamfgmiaa
