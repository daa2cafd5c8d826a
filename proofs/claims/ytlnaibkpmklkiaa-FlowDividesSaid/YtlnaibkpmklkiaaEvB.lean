/- The program's operations, turned into those of the pure reading. -/
import Derived.Test.YtlnaibkpmklkiaaEvA
import Derived.ChangeKeysEq
import Derived.MapKept
import Derived.WideKeyRuns
import Derived.Carry
namespace Go.Proofs.Ytlnaibkpmklkiaa
open Go Go.RowKit

def digV : Operand → Option AO
  | .tmp t => some (.t t)
  | .const v => some (.c (ofVal v))
  | .func f => some (.c (.fn f []))
  | .global _ => none

def digL : List Operand → Option (List AO)
  | [] => some []
  | x :: r => match digV x, digL r with
    | some a, some aa => some (a :: aa)
    | _, _ => none

def digM : Option Operand → Option (Option AO)
  | none => some none
  | some x => match digV x with
    | some a => some (some a)
    | none => none

def zeroP (P : Program) (t : TypeId) : Option (List PV) :=
  match P.info? t with
  | some i => match i.zero with
    | some z => if z.cells.size = i.size ∧ (z.cells.toList.map ofVal).all PV.leaf = true ∧ PV.lt.ltL 0 (z.cells.toList.map ofVal) = true ∧ z.cells.size < 1000000000 then some (z.cells.toList.map ofVal) else none
    | none => none
  | none => none

def aggB (P : Program) (t : TypeId) : Option Bool :=
  match P.underlying t with
  | some (.struct _) => some true
  | some (.array _ _) => some true
  | some _ => some false
  | none => none

def elemP (P : Program) (t : TypeId) : Option (TypeId × TypeInfo) :=
  match P.underlying t with
  | some (.slice e) => match P.info? e with
    | some i => if i.size < 1000000000 then some (e, i) else none
    | none => none
  | _ => none

def digParts (P : Program) (fs : Array Field) : List (Nat × Operand) → Option (List (Nat × Nat × AO))
  | [] => some []
  | (i, x) :: r => match fs[i]? with
    | some f => match P.info? f.type, digV x, digParts P fs r with
      | some ti, some a, some aa => some ((f.offset, ti.size, a) :: aa)
      | _, _, _ => none
    | none => none

def digEls : List (Nat × Operand) → Option (List (Nat × AO))
  | [] => some []
  | (i, x) :: r => match digV x, digEls r with
    | some a, some aa => some ((i, a) :: aa)
    | _, _ => none

def isNilC : Operand → Bool
  | .const (.slice none 0 0) => true
  | _ => false

def ownD (own : List Nat) : Option Nat → Bool
  | some d => hasN d own
  | none => false

def digCall (own : List Nat) (d : Option Nat) (f : Operand) (args : List AO) : Option AOp :=
  match f with
  | .func g => if hasN (1000000 + g) own then some (.callS g args) else some (.call (ownD own d) g args)
  | .tmp t => some (.calld (ownD own d) (.t t) args)
  | _ => none

/-- the kinds of the cells of a type whose values can be compared cell by cell -/
def flatF (P : Program) (f : TypeId → Option (List KK)) : List Field → Nat → Option (List KK)
  | [], _ => some []
  | x :: r, off => if x.name ≠ "_" ∧ x.offset = off then match f x.type, P.info? x.type with
      | some l, some i => if i.size = l.length ∧ 0 < i.size then match flatF P f r (off + l.length) with
          | some rs => some (l ++ rs)
          | none => none
        else none
      | _, _ => none
    else none
def flatT (P : Program) : Nat → TypeId → Option (List KK)
  | 0, _ => none
  | d + 1, t => match P.underlying t with
    | some .bool => some [.b]
    | some (.int _) => some [.i]
    | some .string => some [.s]
    | some (.array n e) => match flatT P d e, P.info? e with
      | some l, some i => if i.size = l.length then some (List.replicate n l).flatten else none
      | _, _ => none
    | some (.struct fs) => if P.stoodInHeld t then none else flatF P (flatT P d) fs.toList 0
    | _ => none

def digBuiltin (P : Program) (b : Builtin) (args : List AO) (tys : List TypeId) : Option AOp :=
  match b, args, tys with
  | .len, [x], [t] => match P.underlying t with
    | some .string => some (.lenS x)
    | some (.map _ _) => some (.lenM x)
    | some (.slice _) => some (.len x)
    | some (.array n _) => some (.lenC n)
    | _ => none
  | .cap, [x], [t] => match P.underlying t with
    | some (.slice _) => some (.capN x)
    | _ => none
  | .append, [s, x], [t, u] => match elemP P t with
    | some (e, i) => match i.zero with
      | some z => if z.cells.size = i.size ∧ 0 < i.size then match P.underlying u with
          | some (.slice _) => some (.append i.size i.bytes s x)
          | some .string => some (.append i.size i.bytes s x)
          | some (.int _) => match zeroP P e with
            | some zp => some (.appz i.size i.bytes zp s x)
            | none => none
          | _ => none
        else none
      | none => none
    | none => none
  | .copy, [d, s], [t, _] => match elemP P t with
    | some (_, i) => if 0 < i.size then some (.copy i.size d s) else none
    | none => none
  | .clear, [d], [t] => match elemP P t with
    | some (e, i) => if 0 < i.size then match zeroP P e with
        | some z => some (.clr i.size z d)
        | none => none
      else none
    | none => none
  | .delete, [m, k], [t, _] => match P.underlying t with
    | some (.map K _) => match flatT P 8 K, aggB P K with
      | some ks, some ag => some (.mdel ks ag m k)
      | _, _ => none
    | _ => none
  | .min, xs, _ => some (.min xs)
  | .max, xs, _ => some (.max xs)
  | _, _, _ => none

/-- a type's zero value -/
def zeroS (P : Program) (t : TypeId) : Option PV :=
  match P.info? t with
  | some i => match i.zero with
    | some (.agg cs) => some (.agg (cs.toList.map ofVal))
    | some v => some (ofVal v)
    | none => none
  | none => none

def digSet (P : Program) (t : TypeId) (x i y : Operand) : Option AOp :=
  match P.underlying t, digV x, digV i, digV y with
  | some (.map K _), some m, some k, some v => match flatT P 8 K, aggB P K with
    | some ks, some ag => some (.mset ks ag m k v)
    | _, _ => none
  | _, _, _, _ => none

/-- is an operand the nil of a slice's or an interface's type? -/
def nilT (P : Program) (t : TypeId) (y : Operand) : Option Bool :=
  match y, P.underlying t with
  | .const (.slice none 0 0), some (.slice _) => some true
  | .const .nilIface, some (.interface _) => some false
  | _, _ => none
theorem nilT_slice {P : Program} {t : TypeId} {y : Operand} (h : nilT P t y = some true) : y = .const (.slice none 0 0) ∧ ∃ e, P.underlying t = some (.slice e) := by
  unfold nilT at h
  split at h
  · exact ⟨rfl, _, by assumption⟩
  · cases h
  · cases h
theorem nilT_iface {P : Program} {t : TypeId} {y : Operand} (h : nilT P t y = some false) : y = .const .nilIface ∧ ∃ ms, P.underlying t = some (.interface ms) := by
  unfold nilT at h
  split at h
  · cases h
  · exact ⟨rfl, _, by assumption⟩
  · cases h

/-- an array of its own, element by element -/
def digArr (P : Program) (t : TypeId) (z : List PV) : Option AOp :=
  match P.underlying t with
  | some (.array n e) => match P.info? e with
    | some i => if 0 < n ∧ 0 < i.size ∧ z.length = n * i.size ∧ i.size < 1000000000 ∧ n ≤ 1000000 then some (.alloca i.size n z) else none
    | none => none
  | _ => none
def digOp (P : Program) (own : List Nat) (o : Oper) : Option AOp :=
  match o.op with
  | .move x => match digV x with | some a => some (.mov a) | none => none
  | .assign x => if isNilC x then match elemP P o.type with
      | some (_, i) => some (.nilv i.size)
      | none => none
    else match digV x with | some a => some (.mov a) | none => none
  | .pick c a b => match digV c, digV a, digV b with | some c, some a, some b => some (.pick c a b) | _, _, _ => none
  | .alloc t => match zeroP P t with
    | some z => if hasN 3000000 own then (match digArr P t z with | some a => some a | none => some (.alloc z)) else some (.alloc z)
    | none => none
  | .box _ x => match digV x with | some a => some (.box a) | none => none
  | .build t ps => match P.underlying t with
    | some (.struct fs) => match zeroP P t, digParts P fs ps.toList with
      | some z, some aa => if fs.all (fun f => (P.info? f.type).isSome) then some (.build z aa) else none
      | _, _ => none
    | some (.array _ e) => match zeroP P t, P.info? e, digEls ps.toList with
      | some z, some i, some aa => some (.build z (aa.map fun q => (q.1 * i.size, i.size, q.2)))
      | _, _, _ => none
    | _ => none
  | .buildSlice t n ps => match elemP P t with
    | some (e, i) => match zeroP P e, digEls ps.toList with
      | some z, some aa => if n * i.size ≤ 16777216 ∧ 0 < i.size then some (.bslice (ownD own o.dst) i.size z n aa) else none
      | _, _ => none
    | none => none
  | .load t a => match digV a, aggB P t, P.info? t with | some a, some g, some i => if g = true ∨ i.size = 1 then some (.load i.size g a) else none | _, _, _ => none
  | .store t a x => match digV a, digV x, P.info? t with | some a, some x, some i => some (.store i.size a x) | _, _, _ => none
  | .nilCheck x => match digV x with | some a => some (.nilck a) | none => none
  | .binOp op t x y _ => match nilT P t y with
    | some s => (match op, digV x with | .eql, some a => some (.nilq s false a) | .neq, some a => some (.nilq s true a) | _, _ => none)
    | none => match digV x, digV y, P.underlying t with
      | some a, some b, some .bool => (match op with | .eql => some (.beq false a b) | .neq => some (.beq true a b) | _ => none)
      | some a, some b, some _ => if aggB P t = some true then match flatT P 8 t with
          | some ks => if P.eqGuardType P.depth t then none else (match op with | .eql => some (.beqA false ks a b) | .neq => some (.beqA true ks a b) | _ => none)
          | none => none
        else some (.bin op a b)
      | _, _, _ => none
  | .unOp op _ x => match digV x with | some a => some (.un op a) | none => none
  | .convert s d x => match P.underlying s, P.underlying d, digV x with
    | some (.int _), some (.int k), some a => some (.conv (.int k) a)
    | some .string, some .string, some a => some (.conv .same a)
    | some (.slice e), some .string, some a => match P.underlying e with
      | some (.int .u8) => some (.conv .toStr a)
      | _ => none
    | _, _, _ => none
  | .makeSlice t l c => match elemP P t, digV l, digV c with
    | some (e, i), some l, some c => match zeroP P e with
      | some z => if 0 < i.size then (if ownD own o.dst then some (.make i.size i.bytes z l c) else some (.makez i.size i.bytes z l c)) else none
      | none => none
    | _, _, _ => none
  | .slice t x lo hi mx => match P.underlying t, digV x, digM lo, digM hi, digM mx with
    | some .string, some x, some lo, some hi, some none => some (.slc .string x lo hi none)
    | some (.slice e), some x, some lo, some hi, some mx => match P.info? e with
      | some i => if mx.isSome && hi.isNone then none else some (.slc (.slice i.size) x lo hi mx)
      | none => none
    | some (.array n e), some x, some none, some hi, some none => match P.info? e with
      | some i => some (.asl i.size n x hi)
      | none => none
    | _, _, _, _, _ => none
  | .fieldAddr t x f => match P.underlying t, digV x with
    | some (.struct fs), some a => match fs[f]? with
      | some fd => match P.info? fd.type with
        | some i => if i.size = 0 then none else some (.faddr fd.offset a)
        | none => none
      | none => none
    | _, _ => none
  | .field t x f => match P.underlying t, digV x with
    | some (.struct fs), some a => match fs[f]? with
      | some fd => match aggB P fd.type, P.info? fd.type with
        | some g, some i => if g = true ∨ i.size = 1 then some (.fld fd.offset i.size g a) else none
        | _, _ => none
      | none => none
    | _, _ => none
  | .indexAddr t x i => match P.underlying t, digV x, digV i with
    | some (.slice e), some a, some i => match P.info? e with
      | some ti => some (.iaddr (.slice ti.size) a i)
      | none => none
    | some (.array n e), some a, some i => match P.info? e with
      | some ti => some (.iaddr (.array n ti.size) a i)
      | none => none
    | _, _, _ => none
  | .index t x i => match P.underlying t, digV x, digV i with
    | some .string, some a, some i => some (.idxS a i)
    | some (.array n e), some a, some i => match aggB P e, P.info? e with
      | some g, some ti => if g = true ∨ ti.size = 1 then some (.idxA n ti.size g a i) else none
      | _, _ => none
    | _, _, _ => none
  | .makeMap t r => match P.underlying t, digM r with
    | some (.map _ _), some r => some (.mkmap r)
    | _, _ => none
  | .lookup t x i ok => match P.underlying t, digV x, digV i with
    | some (.map K E), some m, some k => match flatT P 8 K, aggB P K, zeroS P E with
      | some ks, some ag, some zp => some (.mget ok ks ag zp m k)
      | _, _, _ => none
    | _, _, _ => none
  | .mapUpdate t x i y => digSet P t x i y
  | .insert t x i y => digSet P t x i y
  | .extract x i => match digV x with | some a => some (.ext a i) | none => none
  | .call c => match digL c.args.toList with
    | some args => match c.callee with
      | .value f => digCall own o.dst f args
      | .builtin b => digBuiltin P b args c.argTypes.toList
      | _ => none
    | none => none
  | .makeFunc f first caps => match f, first.toList, digL caps.toList with
    | .func g, [], some caps => some (.mkfn g caps)
    | _, _, _ => none
  | _ => none

def digOper (P : Program) (own : List Nat) (ops : Array Oper) (o : Oper) : Option AOper :=
  match digOp P own o with
  | some a => match o.guard with
    | none => some ⟨o.dst, none, a⟩
    | some (j, want) => match (ops[j]?).bind (·.dst) with
      | some s => some ⟨o.dst, some (s, want), a⟩
      | none => none
  | none => none

def digOps (P : Program) (own : List Nat) (ops : Array Oper) : List Oper → Option (List AOper)
  | [] => some []
  | o :: r => match digOper P own ops o, digOps P own ops r with
    | some a, some aa => some (a :: aa)
    | _, _ => none

/-- the slots that an operation looks at -/
def looks (o : Oper) (a : AOper) : List Nat :=
  (o.op.operands.toList.filterMap fun | .tmp t => some t | _ => none) ++ (match a.guard with | some (s, _) => [s] | none => [])

def memK : AOp → Bool
  | .mov _ | .nilq _ _ _ | .pick _ _ _ | .bin _ _ _ | .beq _ _ _ | .beqA _ _ _ _ | .un _ _ | .fld _ _ _ _ | .idxA _ _ _ _ _ | .idxS _ _ | .ext _ _ | .lenC _ | .lenS _ | .min _ | .max _ | .mkfn _ _ | .build _ _ => false
  | .conv k _ => (match k with | .int _ => false | .same => false | _ => true)
  | _ => true

/-- what touches memory and may not change places with what changes it -/
def hardK (soft : List Nat) (j : Nat) (op : AOp) : Bool := memK op && (op.isEff || !hasN j soft)

/-- in a region that draws its order: what reads or writes one slot is in the text's order, and so is what touches memory with what changes it -/
def pairOk (soft : List Nat) (bef : Nat) (i j : Nat) (x y : Oper × AOper) : Bool :=
  Nat.testBit bef i ||
  ((match x.1.dst with | some d => !hasN d (looks y.1 y.2) && !(match y.1.dst with | some e => Nat.beq d e | none => false) | none => true) &&
   (match y.1.dst with | some d => !hasN d (looks x.1 x.2) | none => true) &&
   !(x.2.op.isEff && hardK soft j y.2.op) && !(hardK soft i x.2.op && y.2.op.isEff))

def pairsFrom (soft : List Nat) (x : Oper × AOper) (i : Nat) : Nat → List (Oper × AOper) → List Nat → Bool
  | _, [], _ => true
  | j, y :: r, b :: bs => pairOk soft b i j x y && pairsFrom soft x i (j + 1) r bs
  | _, _ :: _, [] => false
def pairsGo (soft : List Nat) : Nat → List (Oper × AOper) → List Nat → Bool
  | _, [], _ => true
  | i, x :: r, bs => pairsFrom soft x i (i + 1) r bs.tail && pairsGo soft (i + 1) r bs.tail

/-- what comes before an operation, as bits -/
def befOne (acc : List Nat) : List Edge → Nat
  | [] => 0
  | e :: es => if Region.binds .any e then (2 ^ e.on ||| acc.getD e.on 0) ||| befOne acc es else befOne acc es
def befAll : List Oper → List Nat → List Nat
  | [], acc => acc
  | o :: r, acc => befAll r (acc ++ [befOne acc o.after.toList])

def edgesOk : Nat → List Oper → Bool
  | _, [] => true
  | i, o :: r => o.after.toList.all (fun e => !Region.binds .any e || Nat.blt e.on i) && edgesOk (i + 1) r

def drawOk (P : Program) (soft : List Nat) (ops : Array Oper) (aa : List AOper) : Bool :=
  P.follows .mixedOrders && pairsGo soft 0 (ops.toList.zip aa) (befAll ops.toList []) && edgesOk 0 ops.toList

def softK : AOp → Bool
  | .load _ _ _ => true
  | .faddr _ _ => true
  | .len _ => true
  | .iaddr _ _ _ => true
  | .bslice own _ _ _ _ => !own
  | _ => false
/-- the operations that may change places with one that changes a block -/
def softs (ops : Array Oper) (aa : List AOper) : List Nat :=
  let bs := befAll ops.toList []
  (List.range aa.length).filter fun j => match aa[j]? with
    | some o => softK o.op && o.guard.isNone && (List.range aa.length).any fun e => match aa[e]? with
      | some q => q.op.isEff && (if e < j then !Nat.testBit (bs.getD j 0) e else if j < e then !Nat.testBit (bs.getD e 0) j else false)
      | none => false
    | none => false

def digCode (P : Program) (own : List Nat) : Code → List (List Nat) → Option (AC × List (List Nat))
  | .skip, ks => some (.skip, ks)
  | .region _ ops draw, ks => match digOps P own ops ops.toList with
    | some aa => if draw then if drawOk P [] ops aa then some (.reg aa, ks) else if drawOk P (softs ops aa) ops aa then some (.regd (softs ops aa) aa, ks) else some (.stuck, ks) else some (.reg aa, ks)
    | none => some (.stuck, ks)
  | .seq a b, ks => match digCode P own a ks with
    | some (a, ks) => match digCode P own b ks with
      | some (b, ks) => some (.seq a b, ks)
      | none => none
    | none => none
  | .cond c a b, ks => match digV c with
    | some c => match digCode P own a ks with
      | some (a, ks) => match digCode P own b ks with
        | some (b, ks) => some (.cond c a b, ks)
        | none => none
      | none => none
    | none => some (.stuck, ks)
  | .block id a, ks => match digCode P own a ks with
    | some (a, ks) => some (.block id a, ks)
    | none => none
  | .loop a, ks => match digCode P own a ks.tail with
    | some (a, ks') => some (.loop (ks.headD []) a, ks')
    | none => none
  | .exit id, ks => some (.exit id, ks)
  | .ret, ks => some (.ret, ks)
  | _, ks => some (.stuck, ks)

def digRes (P : Program) : List ResultVar → Option (List RV)
  | [] => some []
  | .tmp t :: r => match digRes P r with
    | some ts => some (.t t :: ts)
    | none => none
  | .cell a t :: r => match aggB P t, P.info? t, digRes P r with
    | some g, some i, some ts => if g = true ∨ i.size = 1 then some (.c a i.size g :: ts) else none
    | _, _, _ => none

def digFn (P : Program) (own : List Nat) (ks : List (List Nat)) (fn : Func) : Option AFn :=
  match fn.body with
  | some c => match digCode P own c ks, digRes P fn.results.toList with
    | some (c, _), some res => if fn.name = "runtime.NumGoroutine" then none else some ⟨fn.params.size + fn.nfree, fn.ntmps, res, c, none⟩
    | _, _ => none
  | none => none

def lookP : List (Nat × AFn) → Nat → Option AFn
  | [], _ => none
  | (i, c) :: r, f => if Nat.beq i f then some c else lookP r f
theorem lookP_mem : ∀ {l : List (Nat × AFn)} {f : Nat} {c : AFn}, lookP l f = some c → (f, c) ∈ l
  | [], f, c, h => by simp [lookP] at h
  | (i, c0) :: r, f, c, h => by
    simp only [lookP] at h
    split at h
    · rename_i hb
      cases h
      rw [Nat.eq_of_beq_eq_true hb]
      simp
    · exact List.mem_cons_of_mem _ (lookP_mem h)
theorem all_cons {α : Type} {Q : α → Prop} {a : α} {l : List α} (h : Q a) (hl : ∀ x ∈ l, Q x) : ∀ x ∈ a :: l, Q x := fun x hx => by
  rcases List.mem_cons.1 hx with rfl | hx
  · exact h
  · exact hl x hx
theorem all_nil {α : Type} {Q : α → Prop} : ∀ x ∈ ([] : List α), Q x := fun x hx => by simp at hx

end Go.Proofs.Ytlnaibkpmklkiaa
