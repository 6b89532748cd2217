/- Plain facts of chapter 7: texts as lists of bytes, parts between separators, texts joined. No program in sight. -/
import Derived.Test.YtppdjjdejggjaaaDoorNum
namespace Go.Proofs.YtppdjjdejggjaaaDoor

/-- A text of bytes. -/
def bt (l : List UInt8) : ByteArray := ⟨l.toArray⟩
theorem bt_size (l : List UInt8) : (bt l).size = l.length := by simp [bt, ByteArray.size]
theorem bt_of (s : ByteArray) : s = bt s.data.toList := by simp [bt]
theorem bt_list (l : List UInt8) : (bt l).data.toList = l := by simp [bt]
theorem bt_app (a b : List UInt8) : bt a ++ bt b = bt (a ++ b) := by
  apply ByteArray.ext
  simp [bt]
theorem bt_get (l : List UInt8) (k : Nat) (h : k < (bt l).size) : (bt l)[k] = l[k]'(by rw [bt_size] at h; exact h) := by
  simp [bt, ByteArray.getElem_eq_getElem_data]
theorem bt_cut (l : List UInt8) (i j : Nat) : (bt l).extract i j = bt ((l.take j).drop i) := by
  apply ByteArray.ext
  simp [bt, List.extract_toArray, List.extract_eq_take_drop]
  rw [List.drop_take]
theorem bt_inj {a b : List UInt8} (h : bt a = bt b) : a = b := by
  have := congrArg (fun s => s.data.toList) h
  simpa [bt] using this
theorem bt_eq_iff (a b : List UInt8) : bt a = bt b ↔ a = b := ⟨bt_inj, fun h => by rw [h]⟩

/-- The parts between separators that have ended among the first k bytes, and where the next one begins. -/
def upP (l : List UInt8) (b : UInt8) : Nat → List (List UInt8) × Nat
  | 0 => ([], 0)
  | k + 1 => if l[k]? = some b then ((upP l b k).1 ++ [(l.take k).drop (upP l b k).2], k + 1) else upP l b k
def parts (l : List UInt8) (b : UInt8) : List (List UInt8) := (upP l b l.length).1 ++ [l.drop (upP l b l.length).2]
theorem upP_le (l : List UInt8) (b : UInt8) (k : Nat) : (upP l b k).2 ≤ k := by
  induction k with
  | zero => simp [upP]
  | succ k ih =>
    rw [upP]
    split
    · simp
    · omega
theorem upP_len (l : List UInt8) (b : UInt8) (k : Nat) : (upP l b k).1.length ≤ k := by
  induction k with
  | zero => simp [upP]
  | succ k ih =>
    rw [upP]
    split
    · simp; omega
    · omega
theorem parts_len (l : List UInt8) (b : UInt8) : 1 ≤ (parts l b).length ∧ (parts l b).length ≤ l.length + 1 := by
  have := upP_len l b l.length
  simp [parts]
  exact this
/-- Texts with a separator between them. -/
def joinP (b : UInt8) : List (List UInt8) → List UInt8
  | [] => []
  | r :: rs => rs.foldl (fun acc x => acc ++ (b :: x)) r
theorem joinP_snoc (b : UInt8) (rs : List (List UInt8)) (x : List UInt8) (h : rs ≠ []) : joinP b (rs ++ [x]) = joinP b rs ++ (b :: x) := by
  cases rs with
  | nil => exact absurd rfl h
  | cons r rs => simp [joinP]
end Go.Proofs.YtppdjjdejggjaaaDoor
