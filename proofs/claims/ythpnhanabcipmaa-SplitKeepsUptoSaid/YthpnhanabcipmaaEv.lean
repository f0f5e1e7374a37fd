/-
  A run of a function by computing: an interpreter of the semantics' own terms over a list of own rows. Of no program.
-/
import Derived.Test.YthpnhanabcipmaaSm
import Derived.Test.YthpnhanabcipmaaVec
namespace Go.Proofs.Ythpnhanabcipmaa
open Go.RowKit VecM
namespace Ev
/-- what a run takes from outside: a block's number; values that are not known; what stands behind a row's cells -/
structure Fr where
  b : Nat
  x : Nat → Value
  t : List Value
inductive Lv where
  | v (x : Value)
  | c (x : Code)
/-- what a run leaves: finding and following it leaves hints, checking it leaves what is to be shown -/
inductive It where
  | row (j : Nat)
  | eqv (x y : Value)
  | con (c b : Bool)
  | cod (x y : Code)
  | sub (v : Value) (l : List It)
  | lay (v : Value) (l : List It)
  | nx (x : Next) (l : List It)
  | cal (v : Fr → Value) (c : Fr → List Value) (t : TypeId) (l : List It)
inductive Md where
  | find
  | follow
  | check
/-- a row of memory: own ones may be written -/
structure Rw where
  b : Nat
  c : List Value
  t : TypeId
  own : Bool
structure Sg where
  n : Nat
  h : List It
  M : List Rw
  acc : List It
abbrev Out := Except Nat (List It)
/-- a block whose run is known: its code; how many slots; slots that must have these values; the rows as they must be; what must be true; a test; and, by the test's outcome and what is not known, how it ends, slots put anew, the rows -/
structure Hole where
  code : Code
  n : Nat
  need : List (Nat × Value)
  rows : List Rw
  pre : List Bool
  test : Bool
  post : Bool → (Nat → Value) → Exit × List (Nat × Value) × List Rw
noncomputable def findB (M : List Rw) : Nat → Nat → Option (Nat × Rw) :=
  List.rec (motive := fun _ => Nat → Nat → Option (Nat × Rw)) (fun _ _ => none)
    (fun r _ ih b j => Bool.rec (motive := fun _ => Option (Nat × Rw)) (ih b (Nat.succ j)) (some (j, r)) (Nat.beq r.b b)) M
noncomputable def rowAt (M : List Rw) : Nat → Option Rw :=
  List.rec (motive := fun _ => Nat → Option Rw) (fun _ => none) (fun r _ ih n => Nat.rec (motive := fun _ => Option Rw) (some r) (fun m _ => ih m) n) M
/-- the n-th value -/
noncomputable def nth (l : List Value) : Nat → Value :=
  List.rec (motive := fun _ => Nat → Value) (fun _ => undef) (fun x _ ih n => Nat.rec (motive := fun _ => Value) x (fun m _ => ih m) n) l
noncomputable def nth? (l : List Value) : Nat → Option Value :=
  List.rec (motive := fun _ => Nat → Option Value) (fun _ => none) (fun x _ ih n => Nat.rec (motive := fun _ => Option Value) (some x) (fun m _ => ih m) n) l
/-- the n-th value anew, the list written out -/
noncomputable def putK (l : List Value) : Nat → Value → (List Value → Out) → Out :=
  List.rec (motive := fun _ => Nat → Value → (List Value → Out) → Out) (fun _ _ k => k [])
    (fun x l ih n v k => Nat.rec (motive := fun _ => Out) (k (v :: l)) (fun m _ => ih m v fun l' => k (x :: l')) n) l
noncomputable def putR (M : List Rw) : Nat → Rw → (List Rw → Out) → Out :=
  List.rec (motive := fun _ => Nat → Rw → (List Rw → Out) → Out) (fun _ _ k => k [])
    (fun x l ih n v k => Nat.rec (motive := fun _ => Out) (k (v :: l)) (fun m _ => ih m v fun l' => k (x :: l')) n) M
/-- a function's slots: a tree by the number's binary digits -/
inductive Tr where
  | e
  | n (v : Value) (l r : Tr)
structure Tm where
  n : Nat
  t : Tr
  h : n ≤ 4000
/-- an operation whose run is known: how many slots; slots that must have these values; the rows as they must be; what must be true; its value (none: it has none); the rows behind it -/
structure OHole where
  n : Nat
  need : List (Nat × Value)
  rows : List Rw
  pre : List Bool
  v : Option Value
  rows1 : List Rw
/-- a call whose run is known by the rows: the rows as they must be; what must be true; how many rows it lays that are told; by these blocks, its answer and the rows -/
structure CHole where
  rows : List Rw
  pre : List Bool
  n : Nat := 0
  v : List Fr → Value
  lay : List Fr → List Rw := fun _ => []
/-- an operation whose run is known, laying rows that are told: how many slots; slots that must have these values; what must be true; how many rows it lays that are told; by these, its value (none: it has none) and all rows behind it -/
structure AHole where
  n : Nat
  need : List (Nat × Value)
  pre : List Bool
  nf : Nat
  v : List Fr → Option Value
  out : List Fr → List Rw
  nk : Nat := 0
/-- a call that may write rows: what must be true; how many rows it lays that are told; by these blocks, its answer and all rows behind it -/
structure MHole where
  pre : List Bool
  n : Nat := 0
  v : List Fr → Value
  out : List Fr → List Rw
  nk : Nat := 0
/-- which rows are looked into; by how many rows were told so far, the arguments, the rows to which they lead, and all rows: the call's run -/
structure MSum where
  dep : Rw → Bool
  hole : Nat → List Value → List (Nat × Rw) → List Rw → Option MHole
/-- what an interpreter is told: the program; vectors that are known; functions whose answers are known: the cells that must be known vectors', and by these the answer, with what must be true; operations whose number is to be written out, as it is in the sample (a fact each) -/
structure Env where
  P : Program
  known : List (Nat → Int)
  sum : FuncId → List Value → Option (List (List Value) × (List (Nat → Int) → Value × List Bool))
  cc : Op → Bool := fun _ => false
  hole : Nat → Code → Tm → List Rw → Option Hole := fun _ _ _ _ => none
  oph : Oper → Tm → List Rw → Option OHole := fun _ _ _ => none
  csum : FuncId → List Value → List Rw → Option CHole := fun _ _ _ => none
  msum : FuncId → Option MSum := fun _ => none
  aop : Oper → Tm → List Rw → Option AHole := fun _ _ _ => none
noncomputable def getR (t : Tr) : Nat → Value :=
  Tr.rec (motive := fun _ => Nat → Value) (fun _ => undef)
    (fun v _ _ l r i => Nat.rec (motive := fun _ => Value) v (fun m _ => Nat.rec (motive := fun _ => Value) (l (Nat.div m 2)) (fun _ _ => r (Nat.div m 2)) (Nat.mod m 2)) i) t
noncomputable def setR (f : Nat) : Tr → Nat → Value → (Tr → Out) → Out :=
  Nat.rec (motive := fun _ => Tr → Nat → Value → (Tr → Out) → Out) (fun t _ _ k => k t)
    (fun _ ih t i v k => Tr.rec (motive := fun _ => Out)
      (Nat.rec (motive := fun _ => Out) (k (.n v .e .e)) (fun m _ => Nat.rec (motive := fun _ => Out) (ih .e (Nat.div m 2) v fun l => k (.n undef l .e)) (fun _ _ => ih .e (Nat.div m 2) v fun r => k (.n undef .e r)) (Nat.mod m 2)) i)
      (fun x l r _ _ => Nat.rec (motive := fun _ => Out) (k (.n v l r)) (fun m _ => Nat.rec (motive := fun _ => Out) (ih l (Nat.div m 2) v fun l => k (.n x l r)) (fun _ _ => ih r (Nat.div m 2) v fun r => k (.n x l r)) (Nat.mod m 2)) i) t) f
noncomputable def tget (T : Tm) (i : Nat) : Value := Bool.rec (motive := fun _ => Value) undef (getR T.t i) (Nat.blt i T.n)
noncomputable def tget? (T : Tm) (i : Nat) : Option Value := Bool.rec (motive := fun _ => Option Value) none (some (getR T.t i)) (Nat.blt i T.n)
noncomputable def tputK (T : Tm) (i : Nat) (v : Value) (k : Tm → Out) : Out := Bool.rec (motive := fun _ => Out) (k T) (setR 12 T.t i v fun t => k ⟨T.n, t, T.h⟩) (Nat.blt i T.n)
def noB : Nat → Fr := fun i => ⟨i, fun _ => undef, []⟩
noncomputable def pickRow (md : Md) (blk : Nat) (s : Sg) (k : Nat → Rw → Sg → Out) : Out :=
  match md with
  | .find => match findB s.M blk 0 with
    | some (j, r) => k j r ⟨s.n, s.h, s.M, .row j :: s.acc⟩
    | none => .error 1
  | .follow => match s.h with
    | .row j :: h => match rowAt s.M j with
      | some r => k j r ⟨s.n, h, s.M, .row j :: s.acc⟩
      | none => .error 2
    | _ => .error 3
  | .check => match s.h with
    | .row j :: h => match rowAt s.M j with
      | some r => k j r ⟨s.n, h, s.M, .eqv (.int .u64 blk) (.int .u64 r.b) :: s.acc⟩
      | none => .error 4
    | _ => .error 5
def pickCon (md : Md) (c : Bool) (s : Sg) (k : Bool → Sg → Out) : Out :=
  match md with
  | .find => match c with
    | true => k true ⟨s.n, s.h, s.M, .con true true :: s.acc⟩
    | false => k false ⟨s.n, s.h, s.M, .con false false :: s.acc⟩
  | _ => match s.h with
    | .con _ b :: h => k b ⟨s.n, h, s.M, .con c b :: s.acc⟩
    | _ => .error 6
def kNum : IntKind → Nat
  | .i8 => 0 | .i16 => 1 | .i32 => 2 | .i64 => 3 | .u8 => 4 | .u16 => 5 | .u32 => 6 | .u64 => 7
/-- an operation of whole numbers -/
def fastI (b : BinOp) (k : IntKind) (m : Int) (k' : IntKind) (n : Int) : Option Value :=
  match b with
  | .shl => match decide (n < 0) with
    | true => none
    | false => some (.int k (k.wrap (m * 2 ^ (min n.toNat k.bits))))
  | .shr => match decide (n < 0) with
    | true => none
    | false => some (.int k (m.fdiv (2 ^ (min n.toNat k.bits))))
  | _ => match Nat.beq (kNum k) (kNum k') with
    | false => none
    | true => match b with
      | .add => some (.int k (k.wrap (m + n)))
      | .sub => some (.int k (k.wrap (m - n)))
      | .mul => some (.int k (k.wrap (m * n)))
      | .eql => some (.bool (m == n))
      | .neq => some (.bool (m != n))
      | .lss => some (.bool (decide (m < n)))
      | .leq => some (.bool (decide (m ≤ n)))
      | .gtr => some (.bool (decide (m > n)))
      | .geq => some (.bool (decide (m ≥ n)))
      | _ => none
/-- sixteen bytes, told by their cells -/
def asBs : List Value → Option (Nat → Int)
  | [.int .u8 a0, .int .u8 a1, .int .u8 a2, .int .u8 a3, .int .u8 a4, .int .u8 a5, .int .u8 a6, .int .u8 a7, .int .u8 a8, .int .u8 a9, .int .u8 a10, .int .u8 a11, .int .u8 a12, .int .u8 a13, .int .u8 a14, .int .u8 a15] =>
    some fun i => [a0, a1, a2, a3, a4, a5, a6, a7, a8, a9, a10, a11, a12, a13, a14, a15].getD i 0
  | _ => none
def eqInts : List Value → List Value → Option Bool
  | [], [] => some true
  | .int .u8 x :: l, .int .u8 y :: l' => match eqInts l l' with
    | some q => some (and (x == y) q)
    | none => none
  | _, _ => none
/-- what an operation without memory gives -/
noncomputable def fastV (P : Program) (ρ : Operand → Value) (op : Op) : Option Value :=
  match op with
  | .move x => some (ρ x)
  | .assign x => some (ρ x)
  | .binOp b t x y _ => match ρ x, ρ y with
    | .int k m, .int k' n => fastI b k m k' n
    | .agg ⟨c⟩, .agg ⟨d⟩ => match Nat.beq t 54 with
      | true => match b with
        | .eql => match eqInts c d with
          | some q => match Nat.beq c.length 16 with
            | true => some (.bool q)
            | false => none
          | none => none
        | .neq => match eqInts c d with
          | some q => match Nat.beq c.length 16 with
            | true => some (.bool (!q))
            | false => none
          | none => none
        | _ => none
      | false => none
    | _, _ => none
  | .convert s d x => match ρ x with
    | .int _ n => match P.underlying s, P.underlying d with
      | some _, some (.int k) => some (.int k (k.wrap n))
      | _, _ => none
    | _ => none
  | _ => none
noncomputable def evS (P : Program) (md : Md) (β : Nat → Fr) {α : Type} (x : Sem α) : Sg → (α → Sg → Out) → Out :=
  Sem.rec (motive := fun _ => Sg → (α → Sg → Out) → Out)
    (fun a s k => k a s)
    (fun _ a _ ih s k => pickRow md a.block s fun _ r s => match a.spot with
      | some _ => .error 7
      | none => match nth? r.c a.off with
        | some v => ih v s k
        | none => .error 8)
    (fun _ a v _ ih s k => pickRow md a.block s fun j r s => match a.spot with
      | some _ => .error 9
      | none => match v.oneCell', r.own with
        | true, true => match nth? r.c a.off with
          | some _ => putK r.c a.off v fun c => putR s.M j ⟨r.b, c, r.t, true⟩ fun M => ih ⟨s.n, s.h, M, s.acc⟩ k
          | none => .error 10
        | _, _ => .error 11)
    (fun o _ ih s k => match o with
      | .cells c t (0, 0) => ih (β s.n).b ⟨s.n + 1, s.h, ⟨(β s.n).b, c.toList, t, true⟩ :: s.M, s.acc⟩ k
      | _ => .error 12)
    (fun r _ ih s k => pickRow md r s fun _ r s => ih (some (r.t, r.c.length)) s k)
    (fun _ _ _ _ _ _ => .error 13)
    (fun a _ ih s k => pickRow md a.block s fun _ r s => match r.own with
      | true => ih false s k
      | false => .error 14)
    (fun _ _ _ _ _ => .error 15)
    (fun _ _ _ _ _ _ => .error 16)
    (fun q _ ih s k => match q.forced with
      | true => ih 0 s k
      | false => .error 17)
    (fun _ _ _ _ _ => .error 18)
    (fun _ ih s k => ih P s k)
    (fun _ _ ih s k => ih s k)
    (fun _ _ _ => .error 19)
    x
/-- the same of what reads alone -/
noncomputable def evV (P : Program) (md : Md) {α : Type} (x : Sem α) : Sg → (α → Sg → Out) → Out :=
  Sem.rec (motive := fun _ => Sg → (α → Sg → Out) → Out)
    (fun a s k => k a s)
    (fun _ a _ ih s k => pickRow md a.block s fun _ r s => match a.spot with
      | some _ => .error 20
      | none => match nth? r.c a.off with
        | some v => ih v s k
        | none => .error 21)
    (fun _ _ _ _ _ _ _ => .error 22)
    (fun _ _ _ _ _ => .error 23)
    (fun r _ ih s k => pickRow md r s fun _ r s => ih (some (r.t, r.c.length)) s k)
    (fun _ _ _ _ _ _ => .error 24)
    (fun a _ ih s k => pickRow md a.block s fun _ r s => match r.own with
      | true => ih false s k
      | false => .error 25)
    (fun _ _ _ _ _ => .error 26)
    (fun _ _ _ _ _ _ => .error 27)
    (fun q _ ih s k => match q.forced with
      | true => ih 0 s k
      | false => .error 28)
    (fun _ _ _ _ _ => .error 29)
    (fun _ ih s k => ih P s k)
    (fun _ _ ih s k => ih s k)
    (fun _ _ _ => .error 30)
    x
/-- a row laid, and then a value -/
noncomputable def newV (P : Program) {α : Type} (x : Sem α) : Option (Array Value × TypeId × (Nat → Sem α)) :=
  Sem.rec (motive := fun _ => Option (Array Value × TypeId × (Nat → Sem α)))
    (fun _ => none) (fun _ _ _ _ => none) (fun _ _ _ _ _ => none)
    (fun o k _ => match o with
      | .cells c t (0, 0) => some (c, t, k)
      | _ => none)
    (fun _ _ _ => none) (fun _ _ _ _ => none) (fun _ _ _ => none) (fun _ _ _ => none) (fun _ _ _ _ => none) (fun _ _ _ => none) (fun _ _ _ => none)
    (fun _ ih => ih P) (fun _ _ ih => ih) (fun _ => none) x
noncomputable def evalT (T : Tm) : Operand → Value
  | .tmp t => tget T t
  | .const v => v
  | .global g => .pointer (some ⟨g, 0, none⟩)
  | .func f => .func (.func f) #[] #[]
noncomputable def putT (T : Tm) (d : Option Tmp) (v : Value) (k : Tm → Out) : Out :=
  match d with
  | some d => tputK T d v k
  | none => k T
noncomputable def yieldT (ops : List Oper) (T : Tm) (j : Nat) : Option Bool :=
  match ((ops[j]?).bind (·.dst)).bind (tget? T) with
  | some (.bool b) => some b
  | _ => none
noncomputable def askG (md : Md) (ops : List Oper) (T : Tm) (o : Oper) (s : Sg) (k : Bool → Sg → Out) : Out :=
  match o.guard with
  | none => k true s
  | some (j, want) => match yieldT ops T j with
    | some b => pickCon md b s fun b s => k (b == want) s
    | none => k false s
def aggB (P : Program) (t : TypeId) : Option Nat :=
  match P.underlying t with
  | some (.struct _) | some (.array _ _) => (P.info? t).map (·.size)
  | _ => none
/-- the first n of a list, written out -/
noncomputable def takeK (n : Nat) : List Value → (List Value → Out) → Out :=
  Nat.rec (motive := fun _ => List Value → (List Value → Out) → Out) (fun _ k => k [])
    (fun _ ih l k => match l with | [] => .error 97 | x :: l => ih l fun q => k (x :: q)) n
/-- a variable's value -/
noncomputable def loadE (P : Program) (md : Md) (x : Value) (t : TypeId) (s : Sg) (k : Value → Sg → Out) : Out :=
  match x with
  | .pointer (some ⟨b, off, none⟩) => match aggB P t with
    | some n => pickRow md b s fun _ r s => takeK n (r.c.drop off) fun q => k (.agg ⟨q⟩) s
    | none => evV P md (loadVar t ⟨b, off, none⟩) s k
  | .pointer (some a) => evV P md (loadVar t a) s k
  | _ => .error 32
noncomputable def storeE (P : Program) (md : Md) (β : Nat → Fr) (x v : Value) (t : TypeId) (s : Sg) (k : Sg → Out) : Out :=
  match x with
  | .pointer (some ⟨b, 0, none⟩) => match v with
    | .agg ⟨c⟩ => match (P.info? t).map (·.size) with
      | some n => pickRow md b s fun j r s => match r.own && (Nat.beq n r.c.length && (Nat.beq n c.length && c.all (·.oneCell'))) with
        | true => putR s.M j ⟨r.b, c, r.t, true⟩ fun M => k ⟨s.n, s.h, M, s.acc⟩
        | false => .error 33
      | none => .error 34
    | v => evS P md β (storeVar t ⟨b, 0, none⟩ v) s fun _ s => k s
  | .pointer (some a) => evS P md β (storeVar t a v) s fun _ s => k s
  | _ => .error 35
noncomputable def joinK (l : List Value) : List Value → (List Value → Out) → Out :=
  List.rec (motive := fun _ => List Value → (List Value → Out) → Out) (fun r k => k r) (fun x _ ih r k => ih r fun q => k (x :: q)) l
noncomputable def delR (M : List Rw) : Nat → (List Rw → Out) → Out :=
  List.rec (motive := fun _ => Nat → (List Rw → Out) → Out) (fun _ k => k [])
    (fun x l ih n k => Nat.rec (motive := fun _ => Out) (k l) (fun m _ => ih m fun l' => k (x :: l')) n) M
/-- an append of one slice to another: the operands, their type -/
def appOf (o : Oper) : Option (Operand × Operand × TypeId) :=
  match o.guard with
  | some _ => none
  | none => match o.op with
    | .call ci => match ci.callee with
      | .builtin .append => match ci.args with
        | ⟨[s, x]⟩ => match ci.argTypes with
          | ⟨[t, t']⟩ => match Nat.beq t t' with
            | true => some (s, x, t)
            | false => none
          | _ => none
        | _ => none
      | _ => none
    | _ => none
/-- of a slice's type: the elements' type, how many cells an element has, its bytes -/
def appT (P : Program) (t : TypeId) : Option (TypeId × Nat × Nat) :=
  match P.underlying t with
  | some (.slice e) => match P.info? e with
    | some i => match i.zero with
      | some z => match Nat.blt 0 i.size && Nat.beq z.cells.size i.size with
        | true => some (e, i.size, i.bytes)
        | false => none
      | none => none
    | none => none
  | _ => none
noncomputable def srcK (md : Md) (size : Nat) (y : Value) (s : Sg) (k : Nat → List Value → Sg → Out) : Out :=
  match y with
  | .slice (some ⟨b, off, none⟩) m _ => pickRow md b s fun _ r s => takeK (Nat.mul m size) (r.c.drop off) fun q => k m q s
  | _ => .error 98
noncomputable def appFin (β : Nat → Fr) (e : TypeId) (size bytes n m : Nat) (xs news : List Value) (s : Sg) (k : Value → Sg → Out) : Out :=
  match Nat.blt 0 m && (Nat.ble (Nat.add n m) 4000000 && (Nat.ble (Nat.mul (Nat.add n m) bytes) 140737488355328 && news.all (·.oneCell'))) with
  | true => joinK news (β s.n).t fun q => joinK xs q fun c => k (.slice (some ⟨(β s.n).b, 0, none⟩) (Nat.add n m) (Nat.div c.length size)) ⟨s.n + 1, s.h, ⟨(β s.n).b, c, e, true⟩ :: s.M, s.acc⟩
  | false => .error 101
def capI (md : Md) (cap len : Nat) (acc : List It) : List It :=
  match md with
  | .check => .eqv (.int .u64 cap) (.int .u64 len) :: acc
  | _ => acc
/-- append: behind it the row that was appended to is no longer known -/
noncomputable def appE (P : Program) (md : Md) (β : Nat → Fr) (x y : Value) (t : TypeId) (s : Sg) (k : Value → Sg → Out) : Out :=
  match appT P t with
  | none => .error 95
  | some (e, size, bytes) => srcK md size y s fun m news s => match x with
    | .slice none 0 0 => appFin β e size bytes 0 m [] news s k
    | .slice (some ⟨b, 0, none⟩) n cap => pickRow md b s fun j r s => match r.own && Nat.beq r.t e with
      | true => takeK (Nat.mul n size) r.c fun xs => delR s.M j fun M => appFin β e size bytes n m xs news ⟨s.n, s.h, M, capI md cap (Nat.div r.c.length size) s.acc⟩ k
      | false => .error 99
    | _ => .error 100
noncomputable def evR (P : Program) (md : Md) : List ResultVar → Tm → Sg → List Value → (Value → Sg → Out) → Out
  | [], _, s, acc, k => match acc with
    | [v] => k v s
    | acc => k (.tuple acc.reverse.toArray) s
  | .tmp t :: rs, T, s, acc, k => evR P md rs T s (tget T t :: acc) k
  | .cell a t :: rs, T, s, acc, k => loadE P md (tget T a) t s fun v s => evR P md rs T s (v :: acc) k
/-- a choice by a test -/
noncomputable def pickV (md : Md) (x a b : Value) (s : Sg) (k : Value → Sg → Out) : Out :=
  match x with
  | .bool x => pickCon md x s fun x s => match x with
    | true => k a s
    | false => k b s
  | _ => .error 74
abbrev CallE := FuncId → List Value → Sg → (Value → Sg → Out) → Out
/-- cells that must be known ones -/
def eqVals : List Value → List Value → Bool
  | [], [] => true
  | .int _ x :: l, .int _ y :: l' => match x == y with
    | true => eqVals l l'
    | false => false
  | _, _ => false
def findK (K : List (Nat → Int)) (c : List Value) (j : Nat) : Option (Nat × (Nat → Int)) :=
  match K with
  | [] => none
  | x :: K => match eqVals (bs x).toList c with
    | true => some (j, x)
    | false => findK K c (j + 1)
def atK (K : List (Nat → Int)) : Nat → Option (Nat → Int) :=
  match K with
  | [] => fun _ => none
  | x :: K => fun n => match n with
    | 0 => some x
    | n + 1 => atK K n
def pickK (md : Md) (K : List (Nat → Int)) (c : List Value) (s : Sg) (k : (Nat → Int) → Sg → Out) : Out :=
  match md with
  | .find => match findK K c 0 with
    | some (j, x) => k x ⟨s.n, s.h, s.M, .row j :: s.acc⟩
    | none => .error 36
  | .follow => match s.h with
    | .row j :: h => match atK K j with
      | some x => k x ⟨s.n, h, s.M, .row j :: s.acc⟩
      | none => .error 72
    | _ => .error 37
  | .check => match s.h with
    | .row j :: h => match atK K j with
      | some x => k x ⟨s.n, h, s.M, .eqv (.agg ⟨c⟩) (.agg (bs x)) :: s.acc⟩
      | none => .error 38
    | _ => .error 39
def pickKs (md : Md) (K : List (Nat → Int)) : List (List Value) → List (Nat → Int) → Sg → (List (Nat → Int) → Sg → Out) → Out
  | [], fs, s, k => k fs s
  | c :: cs, fs, s, k => pickK md K c s fun x s => pickKs md K cs (fs ++ [x]) s k
def pickPs (md : Md) : List Bool → Sg → (Sg → Out) → Out
  | [], s, k => k s
  | p :: ps, s, k => pickCon md p s fun b s => match b with
    | true => pickPs md ps s k
    | false => .error 73
/-- a call: by its known answer, or by 'run' -/
noncomputable def callE (E : Env) (md : Md) (run : CallE) (f : FuncId) (args : List Value) (s : Sg) (k : Value → Sg → Out) : Out :=
  match E.sum f args with
  | some (cs, mk) => pickKs md E.known cs [] s fun fs s => pickPs md (mk fs).2 s fun s => k (mk fs).1 s
  | none => run f args s k
def thaw (r : Rw) : Rw := ⟨r.b, r.c, r.t, false⟩
/-- what kind of row an operation lays, and how it is handed on -/
def laysK (P : Program) : Op → Option (TypeId × (Nat → Value))
  | .alloc t => some (t, fun b => .pointer (some ⟨b, 0, none⟩))
  | .box t _ => some (t, fun b => .pointer (some ⟨b, 0, none⟩))
  | .buildSlice t n _ => match P.underlying t with
    | some (.slice e) => some (e, fun b => .slice (some ⟨b, 0, none⟩) n n)
    | _ => none
  | _ => none
def cellsV : Value → List Value
  | .agg ⟨c⟩ => c
  | _ => []
/-- how many operations stand ahead of the first store -/
def headN : List Oper → Nat
  | [] => 0
  | o :: l => match o.op with
    | .store _ _ _ => 0
    | _ => match appOf o with
      | some _ => 0
      | none => headN l + 1
/-- in which mode the text's order stands for all -/
def drawK (l : List Oper) (n : Nat) : Option Region.Mode :=
  match Nat.blt n l.length with
  | true => match smB l.toArray n [] with
    | true => some .text
    | false => none
  | false => match smAllB l.toArray [] with
    | true => some .text
    | false => match smAnyB l.toArray [] with
      | true => some .any
      | false => none
/-- what one operation of such a region gives -/
inductive Res where
  | bad (n : Nat)
  | val (v : Value) (acc : List It)
  | lay (v : Value) (r : Rw) (mk : Nat → Value) (acc : List It)
  | cal (v : Fr → Value) (c : Fr → List Value) (t : TypeId) (acc : List It)
noncomputable def valE (E : Env) (md : Md) (run : CallE) (o : Oper) (T : Tm) (v0 : Value) (s : Sg) : Res :=
  match fastV E.P (evalT T) o.op with
  | some v => .val v s.acc
  | none => match o.op with
    | .load t x => match loadE E.P md (evalT T x) t s fun v s => .ok (.sub v [] :: s.acc) with
      | .ok (.sub v _ :: acc) => .val v acc
      | .error e => .bad e
      | _ => .bad 62
    | .pick c a b => match pickV md (evalT T c) (evalT T a) (evalT T b) s fun v s => .ok (.sub v [] :: s.acc) with
      | .ok (.sub v _ :: acc) => .val v acc
      | .error e => .bad e
      | _ => .bad 75
    | _ => match evV E.P md (execOp (evalT T) o) s fun x s => .ok (.nx x s.h :: s.acc) with
      | .ok (.nx x l :: acc) => match x with
        | .value v => .val v acc
        | .enter f args => match E.P.inits.toList.all (fun g => !(Nat.beq g f)) with
          | false => .bad 64
          | true => match md with
            | .check => match callE E .check run f args.toList ⟨s.n, l, s.M.map thaw, acc⟩ fun v s => .ok (.eqv v v0 :: s.acc) with
              | .ok acc => .val v0 acc
              | .error e => .bad e
            | md => match callE E md run f args.toList ⟨s.n, l, s.M.map thaw, acc⟩ fun v s => .ok (.eqv v v :: s.acc) with
              | .ok (.eqv v _ :: acc) => .val v acc
              | .error e => .bad e
              | _ => .bad 65
        | _ => .bad 66
      | .error e => .bad e
      | _ => .bad 67
noncomputable def layE (E : Env) (β : Nat → Fr) (o : Oper) (T : Tm) (t : TypeId) (mk : Nat → Value) (s : Sg) : Res :=
  match newV E.P (execOp (evalT T) o) with
  | some (c, t', k) => match Nat.beq t t', k (β s.n).b with
    | true, .pure (.value v) => .lay v ⟨(β s.n).b, c.toList, t, true⟩ mk s.acc
    | _, _ => .bad 60
  | none => .bad 61
/-- rows, as a value -/
def encR (r : Rw) : Value := .tuple #[.int .u64 r.b, .int .u64 r.t, .bool r.own, .agg ⟨r.c⟩]
def encM (M : List Rw) : Value := .tuple ⟨M.map encR⟩
/-- what a call that is known by the rows asks for -/
noncomputable def cI (md : Md) (H : CHole) (M : List Rw) (acc : List It) : List It :=
  match md with
  | .check => .eqv (encM M) (encM H.rows) :: acc
  | _ => acc
/-- the first row's cells -/
def hdC : List Rw → List Value
  | r :: _ => r.c
  | [] => []
/-- what such a call gives -/
noncomputable def calF (E : Env) (md : Md) (H : CHole) (β : Nat → Fr) (n : Nat) (f : FuncId) (acc : List It) : Res :=
  match Nat.beq H.n 1 with
  | true => match H.lay [β n] with
    | [r] => .cal (fun fr => H.v [fr]) (fun fr => hdC (H.lay [fr])) r.t (match md with | .check => .eqv (encM (H.lay [β n])) (encM [⟨(β n).b, hdC (H.lay [β n]), r.t, true⟩]) :: acc | _ => acc)
    | _ => .bad 110
  | false => match Nat.beq H.n 0, H.lay [], E.P.inits.toList.all (fun g => !(Nat.beq g f)) with
    | true, [], true => .val (H.v []) acc
    | _, _, _ => .bad 111
/-- a call that is known by the rows: its answer, and the row that it lays, if any -/
noncomputable def calE (E : Env) (md : Md) (β : Nat → Fr) (o : Oper) (T : Tm) (s : Sg) : Option Res :=
  match o.op with
  | .call _ => match evV E.P md (execOp (evalT T) o) s fun x s => .ok (.nx x s.h :: s.acc) with
    | .ok (.nx (.enter f args) l :: acc) => match E.csum f args.toList (s.M.map thaw) with
      | some H => match pickPs md H.pre ⟨s.n, l, s.M, cI md H (s.M.map thaw) acc⟩ fun s => .ok s.acc with
        | .error e => some (.bad e)
        | .ok acc => some (calF E md H β s.n f acc)
      | none => none
    | _ => none
  | _ => none
/-- slots that must have these values -/
noncomputable def needE (T : Tm) : List (Nat × Value) → List It → List It
  | [], acc => acc
  | (i, v) :: l, acc => needE T l (.eqv (tget T i) v :: acc)
/-- what an operation whose run is known asks for -/
noncomputable def opI (md : Md) (H : OHole) (T : Tm) (M : List Rw) (acc : List It) : List It :=
  match md with
  | .check => needE T H.need (.eqv (encM M) (encM H.rows) :: acc)
  | _ => acc
/-- an operation whose run is known, in a region that draws its order: its value -/
noncomputable def ophE (E : Env) (md : Md) (o : Oper) (T : Tm) (s : Sg) : Option Res :=
  match E.oph o T (s.M.map thaw) with
  | none => none
  | some H => match H.v with
    | none => some (.bad 121)
    | some v => match Nat.beq T.n H.n with
      | false => some (.bad 122)
      | true => match pickPs md H.pre ⟨s.n, s.h, s.M, opI md H T (s.M.map thaw) s.acc⟩ fun s => .ok s.acc with
        | .error e => some (.bad e)
        | .ok acc => some (.val v acc)
noncomputable def opE (E : Env) (md : Md) (β : Nat → Fr) (run : CallE) (o : Oper) (T : Tm) (v0 : Value) (s : Sg) : Res :=
  match laysK E.P o.op with
  | some (t, mk) => layE E β o T t mk s
  | none => match ophE E md o T s with
    | some r => r
    | none => match calE E md β o T s with
      | some r => r
      | none => valE E md run o T v0 s
noncomputable def opD (E : Env) (md : Md) (β : Nat → Fr) (run : CallE) (all : List Oper) (o : Oper) (T : Tm) (v0 : Value) (s : Sg) : Res :=
  match askG md all T o s fun g s => .ok (.sub (.bool g) s.h :: s.acc) with
  | .ok (.sub (.bool g) l :: acc) => match g with
    | false => .val undef acc
    | true => opE E md β run o T v0 ⟨s.n, l, s.M, acc⟩
  | .error e => .bad e
  | _ => .bad 63
def rowsD (rm : Region.Mode) (all : List Oper) (i : Nat) (L : List (Nat × Rw)) (M : List Rw) : List Rw :=
  (L.filter fun x => ancB rm all.toArray all.length i x.1).map (·.2) ++ M
/-- a region that draws its order: 'i' the operation's number, 'L' what was laid -/
noncomputable def evD (E : Env) (rm : Region.Mode) (md : Md) (β : Nat → Fr) (run : CallE) (all : List Oper) (l : List Oper) : Nat → Tm → Sg → List (Nat × Rw) → (Tm → Sg → Out) → Out :=
  List.rec (motive := fun _ => Nat → Tm → Sg → List (Nat × Rw) → (Tm → Sg → Out) → Out)
    (fun _ T s L K => K T ⟨s.n, s.h, L.map (·.2) ++ s.M, s.acc⟩)
    (fun o _ ih i T s L K => match md with
      | .check => match s.h with
        | .sub v0 l :: h => match opD E .check β run all o T v0 ⟨s.n, l, rowsD rm all i L s.M, s.acc⟩ with
          | .val v acc => putT T o.dst v fun T => ih (i + 1) T ⟨s.n, h, s.M, acc⟩ L K
          | .lay _ _ _ _ => .error 68
          | .cal _ _ _ _ => .error 112
          | .bad n => .error n
        | .cal v c t l :: h => match opD E .check β run all o T undef ⟨s.n, l, rowsD rm all i L s.M, s.acc⟩ with
          | .cal v' c' t' acc => putT T o.dst (v (β s.n)) fun T => ih (i + 1) T ⟨s.n + 1, h, s.M, .eqv (v' (β s.n)) (v (β s.n)) :: .eqv (encM [⟨(β s.n).b, c' (β s.n), t', true⟩]) (encM [⟨(β s.n).b, c (β s.n), t, true⟩]) :: acc⟩ (L ++ [(i, ⟨(β s.n).b, c (β s.n), t, true⟩)]) K
          | .bad n => .error n
          | _ => .error 113
        | .lay v0 l :: h => match opD E .check β run all o T v0 ⟨s.n, l, rowsD rm all i L s.M, s.acc⟩ with
          | .cal _ _ _ _ => .error 114
          | .val _ _ => .error 69
          | .lay v r mk acc => putT T o.dst (mk (β s.n).b) fun T => ih (i + 1) T ⟨s.n + 1, h, s.M, .eqv v (mk (β s.n).b) :: .eqv (.agg ⟨r.c⟩) (.agg ⟨cellsV v0⟩) :: acc⟩ (L ++ [(i, ⟨(β s.n).b, cellsV v0, r.t, true⟩)]) K
          | .bad n => .error n
        | _ => .error 46
      | .find => match opD E .find β run all o T undef ⟨s.n, [], rowsD rm all i L s.M, []⟩ with
        | .val v acc => putT T o.dst v fun T => ih (i + 1) T ⟨s.n, s.h, s.M, .sub v acc.reverse :: s.acc⟩ L K
        | .lay v r _ acc => putT T o.dst v fun T => ih (i + 1) T ⟨s.n + 1, s.h, s.M, .lay (.agg ⟨r.c⟩) acc.reverse :: s.acc⟩ (L ++ [(i, r)]) K
        | .cal v c t acc => putT T o.dst (v (β s.n)) fun T => ih (i + 1) T ⟨s.n + 1, s.h, s.M, .cal v c t acc.reverse :: s.acc⟩ (L ++ [(i, ⟨(β s.n).b, c (β s.n), t, true⟩)]) K
        | .bad n => .error n
      | .follow => match s.h with
        | .sub _ l :: h => match opD E .follow β run all o T undef ⟨s.n, l, rowsD rm all i L s.M, []⟩ with
          | .val v acc => putT T o.dst v fun T => ih (i + 1) T ⟨s.n, h, s.M, .sub v acc.reverse :: s.acc⟩ L K
          | .lay _ _ _ _ => .error 70
          | .cal _ _ _ _ => .error 115
          | .bad n => .error n
        | .cal _ _ _ l :: h => match opD E .follow β run all o T undef ⟨s.n, l, rowsD rm all i L s.M, []⟩ with
          | .cal v c t acc => putT T o.dst (v (β s.n)) fun T => ih (i + 1) T ⟨s.n + 1, h, s.M, .cal v c t acc.reverse :: s.acc⟩ (L ++ [(i, ⟨(β s.n).b, c (β s.n), t, true⟩)]) K
          | .bad n => .error n
          | _ => .error 116
        | .lay _ l :: h => match opD E .follow β run all o T undef ⟨s.n, l, rowsD rm all i L s.M, []⟩ with
          | .val _ _ => .error 71
          | .cal _ _ _ _ => .error 117
          | .lay v r _ acc => putT T o.dst v fun T => ih (i + 1) T ⟨s.n + 1, h, s.M, .lay (.agg ⟨r.c⟩) acc.reverse :: s.acc⟩ (L ++ [(i, r)]) K
          | .bad n => .error n
        | _ => .error 47) l
noncomputable def needI (md : Md) (H : AHole) (T : Tm) (acc : List It) : List It :=
  match md with
  | .check => needE T H.need acc
  | _ => acc
/-- k blocks from a number on -/
def frL (β : Nat → Fr) (n k : Nat) : List Fr := (List.range k).map fun i => β (n + i)
/-- a number written out -/
noncomputable def concE (E : Env) (md : Md) (o : Oper) (v : Value) (s : Sg) (k : Value → Sg → Out) : Out :=
  match E.cc o.op with
  | false => k v s
  | true => match v with
    | .int kd z => match md with
      | .find => k v ⟨s.n, s.h, s.M, .sub v [] :: s.acc⟩
      | .follow => match s.h with
        | .sub (.int _ z0) _ :: h => k (.int kd z0) ⟨s.n, h, s.M, .sub (.int kd z0) [] :: s.acc⟩
        | _ => .error 90
      | .check => match s.h with
        | .sub (.int _ z0) _ :: h => k (.int kd z0) ⟨s.n, h, s.M, .con (z == z0) true :: s.acc⟩
        | _ => .error 91
    | _ => .error 92
/-- the block to which a value leads -/
def refB : Value → Option Nat
  | .pointer (some a) => some a.block
  | .slice (some a) _ _ => some a.block
  | _ => none
/-- the rows to which values lead -/
noncomputable def res1 (md : Md) : List Value → List (Nat × Rw) → Sg → (List (Nat × Rw) → Sg → Out) → Out
  | [], L, s, k => k L s
  | v :: vs, L, s, k => match refB v with
    | none => res1 md vs L s k
    | some b => pickRow md b s fun j r s => res1 md vs (L ++ [(j, r)]) s k
/-- the same, and those to which the cells of some of them lead -/
noncomputable def res2 (md : Md) (dep : Rw → Bool) : List Value → List (Nat × Rw) → Sg → (List (Nat × Rw) → Sg → Out) → Out
  | [], L, s, k => k L s
  | v :: vs, L, s, k => match refB v with
    | none => res2 md dep vs L s k
    | some b => pickRow md b s fun j r s => match dep r with
      | true => res1 md r.c (L ++ [(j, r)]) s fun L s => res2 md dep vs L s k
      | false => res2 md dep vs (L ++ [(j, r)]) s k
/-- the first n rows written out -/
noncomputable def rowsK (n : Nat) : List Rw → (List Rw → Out) → Out :=
  Nat.rec (motive := fun _ => List Rw → (List Rw → Out) → Out) (fun l k => k l) (fun _ ih l k => match l with | [] => k [] | x :: l => ih l fun q => k (x :: q)) n
/-- a chain of operations -/
noncomputable def evO (E : Env) (md : Md) (β : Nat → Fr) (run : CallE) (all : List Oper) (l : List Oper) : Tm → Sg → (Tm → Sg → Out) → Out :=
  List.rec (motive := fun _ => Tm → Sg → (Tm → Sg → Out) → Out) (fun T s K => K T s)
    (fun o _ ih T s K => askG md all T o s fun g s => match g with
      | false => putT T o.dst undef fun T => ih T s K
      | true => match E.oph o T s.M with
      | some H => match Nat.beq T.n H.n with
        | true => pickPs md H.pre ⟨s.n, s.h, s.M, opI md H T s.M s.acc⟩ fun s => putT T o.dst (H.v.getD undef) fun T => ih T ⟨s.n, s.h, H.rows1, s.acc⟩ K
        | false => .error 102
      | none => match E.aop o T s.M with
      | some H => match Nat.beq T.n H.n with
        | true => pickPs md H.pre ⟨s.n, s.h, s.M, needI md H T s.acc⟩ fun s => putT T o.dst ((H.v (frL β s.n H.nf)).getD undef) fun T => rowsK H.nk (H.out (frL β s.n H.nf)) fun M => ih T ⟨s.n + H.nf, s.h, M, s.acc⟩ K
        | false => .error 123
      | none => match fastV E.P (evalT T) o.op with
        | some v => putT T o.dst v fun T => ih T s K
        | none => match appOf o with
        | some (x, y, t) => appE E.P md β (evalT T x) (evalT T y) t s fun v s => putT T o.dst v fun T => ih T s K
        | none => match o.op with
          | .load t x => loadE E.P md (evalT T x) t s fun v s => putT T o.dst v fun T => ih T s K
          | .store t x y => storeE E.P md β (evalT T x) (evalT T y) t s fun s => putT T o.dst undef fun T => ih T s K
          | .pick c a b => pickV md (evalT T c) (evalT T a) (evalT T b) s fun v s => putT T o.dst v fun T => ih T s K
          | _ => evS E.P md β (execOp (evalT T) o) s fun nx s => match nx with
            | .value v => concE E md o v s fun v s => putT T o.dst v fun T => ih T s K
            | .skip => putT T o.dst undef fun T => ih T s K
            | .enter f args => match E.csum f args.toList s.M with
              | some H => pickPs md H.pre ⟨s.n, s.h, s.M, cI md H s.M s.acc⟩ fun s => putT T o.dst (H.v (frL β s.n H.n)) fun T => ih T ⟨s.n + H.n, s.h, H.lay (frL β s.n H.n) ++ s.M, s.acc⟩ K
              | none => match E.msum f with
                | some D => res2 md D.dep args.toList [] s fun L s => match D.hole s.n args.toList L s.M with
                  | some H => pickPs md H.pre s fun s => putT T o.dst (H.v (frL β s.n H.n)) fun T => rowsK H.nk (H.out (frL β s.n H.n)) fun M => ih T ⟨s.n + H.n, s.h, M, s.acc⟩ K
                  | none => .error 120
                | none => callE E md run f args.toList s fun v s => putT T o.dst v fun T => ih T s K
            | _ => .error 50) l
/-- the arguments in the first slots -/
noncomputable def fillT (i : Nat) : List Value → Tm → (Tm → Out) → Out
  | [], T, k => k T
  | v :: l, T, k => tputK T i v fun T => fillT (i + 1) l T k
noncomputable def putsT : List (Nat × Value) → Tm → (Tm → Out) → Out
  | [], T, k => k T
  | (i, v) :: l, T, k => tputK T i v fun T => putsT l T k
abbrev CodeK := Exit → Tm → Sg → Out
abbrev CodeE := Code → Tm → Sg → CodeK → Out
/-- a function's run, by its code's -/
noncomputable def runE (E : Env) (md : Md) (ih : CodeE) : CallE := fun f args s k =>
  match E.P.funcs[f]? with
  | none => .error 51
  | some fn => match fn.body with
    | none => .error 52
    | some c => match Nat.decLe (max fn.ntmps args.length) 4000 with
      | isFalse _ => .error 81
      | isTrue h => fillT 0 args ⟨max fn.ntmps args.length, .e, h⟩ fun T => ih c T s fun e T s => match e with
      | .normal => evR E.P md fn.results.toList T s [] k
      | .ret => evR E.P md fn.results.toList T s [] k
      | _ => .error 53
noncomputable def stepC (E : Env) (md : Md) (β : Nat → Fr) (ih : CodeE) : CodeE := fun c T s K =>
  match c with
  | .skip => K .normal T s
  | .region _ ops draw => match draw with
    | false => evO E md β (runE E md ih) ops.toList ops.toList T s fun T s => K .normal T s
    | true => match drawK ops.toList (headN ops.toList) with
      | some rm => evD E rm md β (runE E md ih) ops.toList (ops.toList.take (headN ops.toList)) 0 T s [] fun T s =>
        evO E md β (runE E md ih) ops.toList (ops.toList.drop (headN ops.toList)) T s fun T s => K .normal T s
      | none => .error 57
  | .seq a b => ih a T s fun e T s => match e with
    | .normal => ih b T s K
    | e => K e T s
  | .cond c x y => match evalT T c with
    | .bool b => pickCon md b s fun b s => match b with
      | true => ih x T s K
      | false => ih y T s K
    | _ => .error 54
  | .block id body => match E.hole id body T s.M with
    | some H => match Nat.beq T.n H.n with
      | true => pickPs md H.pre ⟨s.n, s.h, s.M, match md with | .check => needE T H.need (.eqv (encM s.M) (encM H.rows) :: .cod (.block id body) H.code :: s.acc) | _ => s.acc⟩ fun s => pickCon md H.test s fun b s =>
        putsT (H.post b (β s.n).x).2.1 T fun T => K (H.post b (β s.n).x).1 T ⟨s.n + 1, s.h, (H.post b (β s.n).x).2.2, s.acc⟩
      | false => .error 93
    | none => ih body T s fun e T s => match e with
      | .exit j => match Nat.beq j id with
        | true => K .normal T s
        | false => K (.exit j) T s
      | e => K e T s
  | .loop body => ih body T s fun e T s => match e with
    | .normal => ih (.loop body) T s K
    | e => K e T s
  | .exit id => K (.exit id) T s
  | .ret => K .ret T s
  | _ => .error 55
noncomputable def evC (E : Env) (md : Md) (β : Nat → Fr) (fuel : Nat) : CodeE :=
  Nat.rec (motive := fun _ => CodeE) (fun _ _ _ _ => .error 56) (fun _ ih => stepC E md β ih) fuel
noncomputable def evF (E : Env) (md : Md) (β : Nat → Fr) (fuel : Nat) : CallE := runE E md (evC E md β fuel)
def encE : Exit → Value
  | .normal => .int .u8 0
  | .exit n => .tuple #[.int .u64 n]
  | .ret => .int .u8 1
  | _ => undef
/-- code, from slots with these values: it must end so, with these slots' values and, behind what was laid, these rows -/
noncomputable def evCodeM (E : Env) (md : Md) (fuel : Nat) (c : Code) (vals : List Value) (M : List Rw) (h : List It) (ex : Exit) (keep : List (Nat × Value)) (M1 : List Rw) (β : Nat → Fr) : Out :=
  match Nat.decLe (max vals.length vals.length) 4000 with
  | isFalse _ => .error 94
  | isTrue hl => fillT 0 vals ⟨max vals.length vals.length, .e, hl⟩ fun T => evC E md β fuel c T ⟨0, h, M, []⟩ fun e T s =>
    .ok (needE T keep (.eqv (encE e) (encE ex) :: .eqv (encM (s.M.drop (s.M.length - M1.length))) (encM M1) :: .eqv (.int .u64 T.n) (.int .u64 vals.length) :: s.acc))
noncomputable def evCodeHints (E E' : Env) (fuel : Nat) (c : Code) (vals vals' : List Value) (M M' : List Rw) : List It :=
  match evCodeM E' .find fuel c vals' M' [] .normal [] [] noB with
  | .error _ => []
  | .ok h => match evCodeM E .follow fuel c vals M (h.drop 3).reverse .normal [] [] noB with
    | .error _ => []
    | .ok h => (h.drop 3).reverse
noncomputable def evCode (E E' : Env) (fuel : Nat) (c : Code) (vals vals' : List Value) (M M' : List Rw) (ex : Exit) (keep : List (Nat × Value)) (M1 : List Rw) (β : Nat → Fr) : Out :=
  evCodeM E .check fuel c vals M (evCodeHints E E' fuel c vals vals' M M') ex keep M1 β
def assocN : List (Nat × Value) → Nat → Option Value
  | [], _ => none
  | (j, v) :: l, i => match Nat.beq j i with
    | true => some v
    | false => assocN l i
/-- a function's slots, some of which are known -/
def valsOf (need : List (Nat × Value)) (g : Nat → Value) (n : Nat) : List Value := (List.range n).map fun i => match assocN need i with | some v => v | none => g i
def memN : List Nat → Nat → Bool
  | [], _ => false
  | j :: l, i => match Nat.beq j i with
    | true => true
    | false => memN l i
/-- the slots that stay -/
def keepOf (need : List (Nat × Value)) (g : Nat → Value) (n : Nat) (hav : List Nat) : List (Nat × Value) :=
  ((List.range n).filter fun i => !(memN hav i)).map fun i => (i, match assocN need i with | some v => v | none => g i)
/-- found by its own arguments, then checked -/
noncomputable def evTop (E : Env) (fuel : Nat) (f : FuncId) (args : List Value) (v : Value) (β : Nat → Fr) : Out :=
  match evF E .find noB fuel f args ⟨0, [], [], []⟩ fun _ s => .ok s.acc with
  | .error e => .error e
  | .ok h => evF E .check β fuel f args ⟨0, h.reverse, [], []⟩ fun r s => .ok (.eqv r v :: s.acc)
/-- hints: found by sample arguments, followed by one's own -/
noncomputable def evHints (E E' : Env) (fuel : Nat) (f : FuncId) (args args' : List Value) : List It :=
  match evF E' .find noB fuel f args' ⟨0, [], [], []⟩ fun _ s => .ok s.acc with
  | .error _ => []
  | .ok h => match evF E .follow noB fuel f args ⟨0, h.reverse, [], []⟩ fun _ s => .ok s.acc with
    | .error _ => []
    | .ok h => h.reverse
noncomputable def evPath (E E' : Env) (fuel : Nat) (f : FuncId) (args args' : List Value) (v : Value) (β : Nat → Fr) : Out :=
  evF E .check β fuel f args ⟨0, evHints E E' fuel f args args', [], []⟩ fun r s => .ok (.eqv r v :: s.acc)
def It.l : It → Lv
  | .eqv x _ => .v x
  | .con c _ => .v (.bool c)
  | .cod x _ => .c x
  | _ => .v undef
def It.r : It → Lv
  | .eqv _ y => .v y
  | .con _ b => .v (.bool b)
  | .cod _ y => .c y
  | _ => .v undef
def lhsO (o : Out) : List Lv := match o with
  | .ok l => l.map It.l
  | .error _ => [.v (.bool false)]
def rhsO (o : Out) : List Lv := match o with
  | .ok l => l.map It.r
  | .error _ => [.v (.bool true)]
/-- tests that are facts of one's own: 'ts' has for each test the fact's number, from 1 on; 0: it is to be computed -/
def tagL (D : List (Bool × Bool)) : List It → List Nat → List Lv
  | [], _ => []
  | .con c b :: l, t :: ts => match t with
    | 0 => .v (.bool c) :: tagL D l ts
    | _ + 1 => .v (.bool c) :: .v (.bool b) :: tagL D l ts
  | .con c _ :: l, [] => .v (.bool c) :: tagL D l []
  | x :: l, ts => x.l :: tagL D l ts
def tagR (D : List (Bool × Bool)) : List It → List Nat → List Lv
  | [], _ => []
  | .con _ b :: l, t :: ts => match t with
    | 0 => .v (.bool b) :: tagR D l ts
    | k + 1 => match D[k]? with
      | some (x, y) => .v (.bool x) :: .v (.bool y) :: tagR D l ts
      | none => [.v (.bool true), .v (.int .u8 0)]
  | .con _ b :: l, [] => .v (.bool b) :: tagR D l []
  | x :: l, ts => x.r :: tagR D l ts
def tagOL (D : List (Bool × Bool)) (ts : List Nat) (o : Out) : List Lv := match o with
  | .ok l => tagL D l ts
  | .error _ => [.v (.bool false)]
def tagOR (D : List (Bool × Bool)) (ts : List Nat) (o : Out) : List Lv := match o with
  | .ok l => tagR D l ts
  | .error _ => [.v (.bool true)]
end Ev
end Go.Proofs.Ythpnhanabcipmaa
