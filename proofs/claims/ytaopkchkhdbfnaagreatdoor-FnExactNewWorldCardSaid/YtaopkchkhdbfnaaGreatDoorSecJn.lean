/-
  Plain: a journal's text; lists of sectors with texts in memory. No condition.
-/
import Derived.Test.YtaopkchkhdbfnaaGreatDoorSecRows
namespace Go.Proofs.YtaopkchkhdbfnaaGreatDoor.Sec
open Go.RowKit Go.Proofs.YtaopkchkhdbfnaaGreatDoor.Mem
set_option linter.unusedVariables false

/-- A sector that a journal writes. -/
structure Ou where
  sec : Int
  text : ByteArray

def Ou.none : Ou := ⟨0, ByteArray.empty⟩
def Ou.cells (x : Ou) : List Value := [.int .i64 x.sec, .string x.text]

/-- A journal. -/
structure Jn where
  txn : Int
  done : Bool
  kind : Int
  vol : Int
  to : Int
  at_ : Int
  text : ByteArray
  outs : List Ou

/-- Cell i of a list of them, two cells each. -/
def ocell (l : List Ou) (i : Nat) : Value := (l.getD (i / 2) Ou.none).cells.getD (i % 2) undef
def Ous (w : World) (a : Option Addr) (l : List Ou) : Prop := Sl w a (l.length * 2) (ocell l)
def OusW (w : World) (B : Nat) (a : Option Addr) (l : List Ou) : Prop := Wr w B a (l.length * 2) (ocell l)

theorem ocell_at (l : List Ou) (k j : Nat) (hj : j < 2) : ocell l (k * 2 + j) = (l.getD k Ou.none).cells.getD j undef := by
  unfold ocell
  rw [show (k * 2 + j) / 2 = k by omega, show (k * 2 + j) % 2 = j by omega]

theorem Ous.at_ {w : World} {a : Option Addr} {l : List Ou} (h : Ous w a l) (k : Nat) (hk : k < l.length) : ∃ b off, a = some ⟨b, off, none⟩ ∧
    w.cell? ⟨b, off + k * 2, none⟩ = some (.int .i64 (l.getD k Ou.none).sec) ∧ w.cell? ⟨b, off + k * 2 + 1, none⟩ = some (.string (l.getD k Ou.none).text) := by
  obtain ⟨b, off, rfl, h0⟩ := h (k * 2 + 0) (by omega)
  obtain ⟨b1, off1, e1, h1⟩ := h (k * 2 + 1) (by omega)
  cases e1
  rw [ocell_at l k _ (by omega)] at h0 h1
  exact ⟨b, off, rfl, h0, by rw [Nat.add_assoc]; exact h1⟩

/-- Number i of the list is right. -/
def outAt (l : List Ou) (i : Nat) : Prop := (0 ≤ (l.getD i Ou.none).sec ∧ (l.getD i Ou.none).sec ≤ 33) ∧ (0 < i → (l.getD (i - 1) Ou.none).sec < (l.getD i Ou.none).sec) ∧ ((l.getD i Ou.none).text.size : Int) ≤ 60

theorem outAt_dec (l : List Ou) : Nonempty (DecidablePred (outAt l)) := ⟨fun i => by unfold outAt; exact inferInstance⟩

def outsOk (l : List Ou) : Bool := (List.range l.length).all fun i => decide (0 ≤ (l.getD i Ou.none).sec ∧ (l.getD i Ou.none).sec ≤ 33) && decide (0 < i → (l.getD (i - 1) Ou.none).sec < (l.getD i Ou.none).sec) && decide (((l.getD i Ou.none).text.size : Int) ≤ 60)

theorem outsOk_iff (l : List Ou) : outsOk l = true ↔ ∀ i, i < l.length → outAt l i := by
  unfold outsOk outAt
  rw [List.all_eq_true]
  constructor
  · intro h i hi
    have := h i (List.mem_range.2 hi)
    rw [Bool.and_eq_true, Bool.and_eq_true] at this
    exact ⟨of_decide_eq_true this.1.1, of_decide_eq_true this.1.2, of_decide_eq_true this.2⟩
  · intro h i hi
    obtain ⟨a, b, c⟩ := h i (List.mem_range.1 hi)
    rw [Bool.and_eq_true, Bool.and_eq_true]
    exact ⟨⟨decide_eq_true a, decide_eq_true b⟩, decide_eq_true c⟩

theorem outsOk_no {l : List Ou} (i : Nat) (hi : i < l.length) (h : ¬ outAt l i) : outsOk l = false := by
  cases e : outsOk l with
  | false => rfl
  | true => exact absurd ((outsOk_iff l).1 e i hi) h

def opOk (kind vol to at_ : Int) (text : ByteArray) : Bool := decide (1 ≤ kind ∧ kind ≤ 20) && between 0 99 [vol, to, at_] && decide ((text.size : Int) ≤ 16)

def opNone (kind vol to at_ : Int) (text : ByteArray) : Prop := kind = 0 ∧ vol = 0 ∧ to = 0 ∧ at_ = 0 ∧ text.size = 0

def Jn.ok (J : Jn) : Bool :=
  if J.done then decide (0 ≤ J.txn ∧ J.txn ≤ 1000000) && (decide (J.kind = 0 ∧ J.vol = 0 ∧ J.to = 0 ∧ J.at_ = 0 ∧ J.text.size = 0) && decide (J.outs.length = 0))
  else decide (1 ≤ J.txn ∧ J.txn ≤ 1000000) && (opOk J.kind J.vol J.to J.at_ J.text && (decide (1 ≤ J.outs.length ∧ J.outs.length ≤ 8) && outsOk J.outs))

def piece (s : ByteArray) : ByteArray := vr (s.size : Int) ++ s

/-- The texts of sectors, one behind the other. -/
def outsS (l : List Ou) : ByteArray := l.foldl (fun s x => s ++ vr x.sec ++ piece x.text) ⟨#[]⟩

def Jn.head (J : Jn) : ByteArray := ⟨#[106]⟩ ++ vr J.txn ++ flag J.done ++ vr J.kind ++ vr J.vol ++ vr J.to ++ vr J.at_ ++ piece J.text ++ vr (J.outs.length : Int)
def Jn.show (J : Jn) : ByteArray := if J.ok then summed (J.head ++ outsS J.outs) else ⟨#[]⟩

theorem piece_size (s : ByteArray) : (piece s).size ≤ 7 + s.size := by
  have := vr_size (s.size : Int)
  unfold piece; rw [ByteArray.size_append]; omega

theorem outsS_take (l : List Ou) (k : Nat) (h : k < l.length) : outsS (l.take (k + 1)) = outsS (l.take k) ++ vr (l.getD k Ou.none).sec ++ piece (l.getD k Ou.none).text := by
  unfold outsS
  rw [List.take_add_one, List.foldl_append]
  simp [List.getD, h]

theorem outsS_size (l : List Ou) (hl : l.length ≤ 8) (h : ∀ i, i < l.length → ((l.getD i Ou.none).text.size : Int) ≤ 60) (k : Nat) (hk : k ≤ l.length) : (outsS (l.take k)).size ≤ 74 * k := by
  induction k with
  | zero => simp [outsS]; rfl
  | succ k ih =>
    have h1 := ih (by omega)
    have h2 := vr_size (l.getD k Ou.none).sec
    have h3 := piece_size (l.getD k Ou.none).text
    have h4 := h k (by omega)
    rw [outsS_take l k (by omega), ByteArray.size_append, ByteArray.size_append]
    omega

theorem head_size (J : Jn) (h : J.text.size ≤ 16) : J.head.size ≤ 100 := by
  have h0 := vr_size J.txn
  have h1 := vr_size J.kind
  have h2 := vr_size J.vol
  have h3 := vr_size J.to
  have h4 := vr_size J.at_
  have h5 := piece_size J.text
  have h6 := vr_size (J.outs.length : Int)
  have h7 : (flag J.done).size ≤ 7 := vr_size _
  unfold Jn.head
  simp only [ByteArray.size_append]
  have : (⟨#[106]⟩ : ByteArray).size = 1 := rfl
  omega

end Go.Proofs.YtaopkchkhdbfnaaGreatDoor.Sec
