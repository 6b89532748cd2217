/- Plain arithmetic of chapter 5, 3: binary digits counted; texts of digits. No program in sight. -/
import Derived.Test.YtcfpdlkkniilpaaGreatDoorRuM
namespace Go.Proofs.YtcfpdlkkniilpaaGreatDoor

/-- How many ones the last f binary digits of a number have. -/
def pcf : Nat → Nat → Nat
  | 0, _ => 0
  | f + 1, u => u % 2 + pcf f (u / 2)
theorem pcf_zero (f : Nat) : pcf f 0 = 0 := by
  induction f with
  | zero => rfl
  | succ f ih => rw [pcf]; simpa using ih
theorem pcf_small (f u : Nat) (h : u < 2 ^ f) (hu : u < 2) : pcf f u = u := by
  cases f with
  | zero => simp at h; subst h; rfl
  | succ f =>
    rw [pcf, show u / 2 = 0 by omega, pcf_zero]
    omega
theorem pcf_step (f u : Nat) (h : u < 2 ^ f) (hu : 2 ≤ u) : ∃ g, f = g + 1 ∧ u / 2 < 2 ^ g ∧ pcf f u = u % 2 + pcf g (u / 2) := by
  cases f with
  | zero => simp at h; omega
  | succ f =>
    refine ⟨f, rfl, ?_, rfl⟩
    rw [Nat.pow_succ] at h
    omega
/-- What is to be looked at for one number. -/
def chk (m : Nat) : Bool := m == 0 || ((m &&& (m - 1) == 0) == (pcf 13 m == 1))
/-- The numbers from a on, 2 ^ d of them. -/
def chks : Nat → Nat → Bool
  | 0, a => chk a
  | d + 1, a => chks d a && chks d (a + 2 ^ d)
theorem chks_at (d a m : Nat) (h : chks d a = true) (h1 : a ≤ m) (h2 : m < a + 2 ^ d) : chk m = true := by
  induction d generalizing a with
  | zero =>
    obtain rfl : m = a := by simp at h2; omega
    exact h
  | succ d ih =>
    rw [chks, Bool.and_eq_true] at h
    rw [Nat.pow_succ] at h2
    rcases Nat.lt_or_ge m (a + 2 ^ d) with h3 | h3
    · exact ih a h.1 h1 h3
    · exact ih _ h.2 h3 (by omega)
theorem chk_all (m : Nat) (h : m < 5001) : chk m = true := chks_at 13 0 m (by decide +kernel) (Nat.zero_le _) (by omega)
theorem pow_two (n : Nat) (h : n < 5001) : 1 ≤ n → (n &&& (n - 1) == 0) = (pcf 13 n == 1) := by
  intro h1
  have k := chk_all n h
  have h0 : (n == 0) = false := by simp; omega
  rw [chk, h0, Bool.false_or] at k
  simpa using k
/-- The powers of 2, as the lists pick them. -/
def fW (x : Int) : Option Int := if pcf 13 x.toNat = 1 then some x else none

/-- A text of c ones and other noughts. -/
def Digs (S : ByteArray) (c : Nat) : Prop := ∃ l : List UInt8, S = ⟨l.toArray⟩ ∧ (∀ x ∈ l, x = 48 ∨ x = 49) ∧ l.count 49 = c ∧ l.length ≤ 65
theorem fold_push (ns : List Int) (a : Array UInt8) : (ns.foldl (fun r n => r.push (UInt8.ofNat n.toNat)) (⟨a⟩ : ByteArray)) = ⟨a ++ (ns.map fun n => UInt8.ofNat n.toNat).toArray⟩ := by
  induction ns generalizing a with
  | nil => simp
  | cons n ns ih =>
    rw [List.foldl_cons]
    show ns.foldl _ (⟨a.push (UInt8.ofNat n.toNat)⟩ : ByteArray) = _
    rw [ih]
    simp
/-- Bytes that were written from the last one to the first. -/
structure Writ (cs : List Value) (m : Nat) (c : Nat) (ns : List Int) : Prop where
  at_ : cs.drop m = ns.map (Value.int .u8)
  dig : ∀ x ∈ ns, x = 48 ∨ x = 49
  cnt : ns.count 49 = c
theorem Writ.digs {cs : List Value} {m c : Nat} {ns : List Int} (h : Writ cs m c ns) (hl : cs.length = 65) : Digs (ns.foldl (fun r n => r.push (UInt8.ofNat n.toNat)) ByteArray.empty) c := by
  refine ⟨ns.map fun n => UInt8.ofNat n.toNat, ?_, ?_, ?_, ?_⟩
  · show ns.foldl _ (⟨#[]⟩ : ByteArray) = _
    rw [fold_push]
    simp
  · intro x hx
    obtain ⟨n, hn, rfl⟩ := List.mem_map.1 hx
    rcases h.dig n hn with rfl | rfl
    · left; decide
    · right; decide
  · rw [← h.cnt]
    have hd := h.dig
    clear h
    induction ns with
    | nil => rfl
    | cons n ns ih =>
      have i := ih fun x hx => hd x (by simp [hx])
      rcases hd n (by simp) with rfl | rfl
      · simp only [List.map_cons]
        rw [List.count_cons_of_ne (by decide), List.count_cons_of_ne (by decide)]
        exact i
      · simp only [List.map_cons]
        rw [show UInt8.ofNat (49 : Int).toNat = 49 by decide, List.count_cons_self, List.count_cons_self, i]
  · have := congrArg List.length h.at_
    simp at this
    simp
    omega
theorem Writ.put {cs : List Value} {m c : Nat} {ns : List Int} (h : Writ cs (m + 1) c ns) (hl : cs.length = 65) (hm : m < 65) (b : Nat) (hb : b < 2) : Writ (cs.set m (.int .u8 (48 + (b : Int)))) m (c + b) ((48 + (b : Int)) :: ns) := by
  refine ⟨?_, ?_, ?_⟩
  · rw [List.drop_eq_getElem_cons (by simp; omega)]
    simp only [List.getElem_set_self, List.map_cons]
    rw [List.drop_set_of_lt (by omega), h.at_]
  · intro x hx
    rcases List.mem_cons.1 hx with rfl | hx
    · omega
    · exact h.dig x hx
  · have hc := h.cnt
    rcases Nat.lt_or_ge b 1 with h1 | h1
    · obtain rfl : b = 0 := by omega
      rw [List.count_cons_of_ne (by decide), hc]
      rfl
    · obtain rfl : b = 1 := by omega
      rw [show (48 + ((1 : Nat) : Int)) = 49 by decide, List.count_cons_self, hc]
theorem Writ.start : Writ (List.replicate 65 (Value.int .u8 0)) 65 0 [] := ⟨by simp, by simp, rfl⟩
end Go.Proofs.YtcfpdlkkniilpaaGreatDoor
