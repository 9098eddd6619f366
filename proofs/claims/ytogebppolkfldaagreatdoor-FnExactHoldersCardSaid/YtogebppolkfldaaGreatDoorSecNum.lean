/-
  Plain: what the text of each kind of sector is. No condition.
-/
import Derived.Test.YtogebppolkfldaaGreatDoorRvNum
import Derived.Test.YtogebppolkfldaaGreatDoorFixNum
import Derived.Test.YtogebppolkfldaaGreatDoorCrcWalks
namespace Go.Proofs.YtogebppolkfldaaGreatDoor.Sec
open Go.Proofs.YtogebppolkfldaaGreatDoor.Var (varS varL)
open Go.Proofs.YtogebppolkfldaaGreatDoor.Fix (fxS fxS_size)
open Go.Proofs.YtogebppolkfldaaGreatDoor.Crc (sumAt sumAt_lt)

/-- The Var of a number; no byte out of its bounds. -/
def vr (n : Int) : ByteArray := if 0 ≤ n ∧ n ≤ 562949953421311 then varS n else ⟨#[]⟩

/-- The sum of a text. -/
def crc (s : ByteArray) : Int := ((4294967295 - sumAt s s.size : Nat) : Int)

theorem crc_bd (s : ByteArray) : 0 ≤ crc s ∧ crc s < 4294967296 := by unfold crc; omega

/-- A text with its sum ahead. -/
def summed (s : ByteArray) : ByteArray := fxS (crc s) 4 ++ s

theorem varL_len : ∀ (f : Nat) (q : Int), (varL f q).length ≤ f
  | 0, q => by simp [varL]
  | f + 1, q => by
    unfold varL
    split
    · simp [varL_len f]
    · simp

theorem vr_size (n : Int) : (vr n).size ≤ 7 := by
  unfold vr
  split
  · unfold varS; rw [strOfNums_size]; exact varL_len 7 n
  · exact Nat.zero_le _

/-- A lease that is right. -/
def lsOk (h e : Int) : Bool := decide ((h = -1 ∧ e = 0) ∨ ((0 ≤ h ∧ h < 3) ∧ (1 ≤ e ∧ e ≤ 100000)))

def showLs (h e : Int) : ByteArray := vr (h + 1) ++ vr e

theorem showLs_size (h e : Int) : (showLs h e).size ≤ 14 := by
  have h1 := vr_size (h + 1)
  have h2 := vr_size e
  unfold showLs
  rw [ByteArray.size_append]; omega

theorem ls_bd {h e : Int} (x : lsOk h e = true) : -1 ≤ h ∧ h < 3 := by
  unfold lsOk at x
  have := of_decide_eq_true x
  omega

/-- The Vars of numbers, each by how far it is above the lowest one, one behind the other. -/
def vrs (lo : Int) (l : List Int) : ByteArray := l.foldl (fun s n => s ++ vr (n - lo)) ⟨#[]⟩

def one (c : UInt8) : ByteArray := ⟨#[c]⟩

def flag (b : Bool) : ByteArray := vr (if b then 1 else 0)

def between (lo hi : Int) (l : List Int) : Bool := l.all fun n => decide (lo ≤ n ∧ n ≤ hi)

def hostOk (b h e : Int) : Bool := decide (0 ≤ b ∧ b ≤ 1000000) && lsOk h e
def showHost (b h e : Int) : ByteArray := if hostOk b h e then summed (one 104 ++ vr b ++ showLs h e) else ⟨#[]⟩

def freesOk (l : List Int) : Bool := decide (l.length ≤ 12) && between 0 17 l
def showFrees (l : List Int) : ByteArray := if freesOk l then summed (one 102 ++ vr l.length ++ vrs 0 l) else ⟨#[]⟩

def groupOk (h e : Int) (l : List Int) : Bool := lsOk h e && decide (l.length = 6) && between 0 16 l
def showGroup (h e : Int) (l : List Int) : ByteArray := if groupOk h e l then summed (one 103 ++ showLs h e ++ vrs 0 l) else ⟨#[]⟩

def volOk (h e : Int) (on : Bool) (l : List Int) : Bool := lsOk h e && decide (l.length = 4) && between (-1) (if on then 17 else -1) l
def showVol (h e : Int) (on : Bool) (l : List Int) : ByteArray := if volOk h e on l then summed (one 118 ++ showLs h e ++ flag on ++ vrs (-1) l) else ⟨#[]⟩

theorem foldl_size (lo : Int) : ∀ (l : List Int) (s : ByteArray), (l.foldl (fun s n => s ++ vr (n - lo)) s).size ≤ s.size + 7 * l.length
  | [], s => by simp
  | n :: l, s => by
    have := foldl_size lo l (s ++ vr (n - lo))
    have h := vr_size (n - lo)
    rw [ByteArray.size_append] at this
    simp only [List.foldl_cons, List.length_cons]
    omega

theorem vrs_size (lo : Int) (l : List Int) : (vrs lo l).size ≤ 7 * l.length := by
  have := foldl_size lo l ⟨#[]⟩
  have e : (⟨#[]⟩ : ByteArray).size = 0 := rfl
  unfold vrs; omega

theorem empty_append (s : ByteArray) : (⟨#[]⟩ : ByteArray) ++ s = s := by
  apply ByteArray.ext; simp [ByteArray.data_append]
theorem append_empty (s : ByteArray) : s ++ (⟨#[]⟩ : ByteArray) = s := by
  apply ByteArray.ext; simp [ByteArray.data_append]
theorem append_assoc (a b c : ByteArray) : a ++ b ++ c = a ++ (b ++ c) := by
  apply ByteArray.ext; simp [ByteArray.data_append]

theorem foldl_from (lo : Int) : ∀ (l : List Int) (s : ByteArray), l.foldl (fun s n => s ++ vr (n - lo)) s = s ++ vrs lo l
  | [], s => by simp [vrs, append_empty]
  | n :: l, s => by
    unfold vrs
    simp only [List.foldl_cons]
    rw [foldl_from lo l (s ++ vr (n - lo)), foldl_from lo l (⟨#[]⟩ ++ vr (n - lo)), empty_append, append_assoc]

theorem vrs_take (lo : Int) (l : List Int) (k : Nat) (h : k < l.length) : vrs lo (l.take (k + 1)) = vrs lo (l.take k) ++ vr (l.getD k 0 - lo) := by
  unfold vrs
  rw [List.take_add_one, List.foldl_append]
  simp [List.getD, h]

theorem vrs_all (lo : Int) (l : List Int) : vrs lo (l.take l.length) = vrs lo l := by rw [List.take_length]

theorem between_take (lo hi : Int) (l : List Int) (k : Nat) (h : k < l.length) : between lo hi (l.take (k + 1)) = (between lo hi (l.take k) && decide (lo ≤ l.getD k 0 ∧ l.getD k 0 ≤ hi)) := by
  unfold between
  rw [List.take_add_one, List.all_append]
  simp [List.getD, h]

theorem between_no (lo hi : Int) (l : List Int) (k : Nat) (h : k < l.length) (hn : ¬ (lo ≤ l.getD k 0 ∧ l.getD k 0 ≤ hi)) : between lo hi l = false := by
  unfold between
  rw [List.all_eq_false]
  refine ⟨l.getD k 0, ?_, by simpa using hn⟩
  simp [List.getD, h]

theorem between_getD {lo hi : Int} {l : List Int} (h : between lo hi l = true) (k : Nat) (hk : k < l.length) : lo ≤ l.getD k 0 ∧ l.getD k 0 ≤ hi := by
  unfold between at h
  rw [List.all_eq_true] at h
  have := h (l.getD k 0) (by simp [List.getD, hk])
  simpa using this

end Go.Proofs.YtogebppolkfldaaGreatDoor.Sec
