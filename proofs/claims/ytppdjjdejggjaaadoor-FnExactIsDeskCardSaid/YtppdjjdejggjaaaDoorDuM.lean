/- Chapter 7: dots as sets of places, held against grids. No program in sight. -/
import Derived.Test.YtppdjjdejggjaaaDoorDtW
namespace Go.Proofs.YtppdjjdejggjaaaDoor

/-- Whether a place lies in a picture of W columns and H rows; the dots of a grid as a set of places; the grid of a set, its text. -/
def inP (W H : Nat) (x y : Int) : Bool := decide (0 ≤ x ∧ x < (W : Int) ∧ 0 ≤ y ∧ y < (H : Int))
def gS (W H : Nat) (d : Nat → Bool) (x y : Int) : Bool := inP W H x y && d (y.toNat * W + x.toNat)
def sD (W : Nat) (S : Int → Int → Bool) (i : Nat) : Bool := S ((i % W : Nat) : Int) ((i / W : Nat) : Int)
def sT (W H : Nat) (S : Int → Int → Bool) : List UInt8 := gText W H (sD W S)
/-- A set of places of a picture. -/
def Bd (W H : Nat) (S : Int → Int → Bool) : Prop := ∀ x y, S x y = true → 0 ≤ x ∧ x < (W : Int) ∧ 0 ≤ y ∧ y < (H : Int)
/-- One place more, one less; those of one set that are in no other one; those of both. -/
def aS (S : Int → Int → Bool) (a b : Int) (x y : Int) : Bool := S x y || (decide (x = a) && decide (y = b))
def rS (S : Int → Int → Bool) (a b : Int) (x y : Int) : Bool := S x y && !(decide (x = a) && decide (y = b))
def dS (S T : Int → Int → Bool) (x y : Int) : Bool := S x y && !T x y
def uS (S T : Int → Int → Bool) (x y : Int) : Bool := S x y || T x y
/-- Whether a place is beside one of a set; the border of a set; those of a set that are beside one of another one. -/
def nS (T : Int → Int → Bool) (x y : Int) : Bool := T (x - 1) y || T (x + 1) y || T x (y - 1) || T x (y + 1)
def bS (S : Int → Int → Bool) (x y : Int) : Bool := S x y && !(S (x - 1) y && S (x + 1) y && S x (y - 1) && S x (y + 1))
def nbS (S T : Int → Int → Bool) (x y : Int) : Bool := S x y && nS T x y

theorem inP_iff {W H : Nat} {x y : Int} : inP W H x y = true ↔ 0 ≤ x ∧ x < (W : Int) ∧ 0 ≤ y ∧ y < (H : Int) := by simp [inP]
theorem gS_bd (W H : Nat) (d : Nat → Bool) : Bd W H (gS W H d) := by
  intro x y h
  unfold gS at h
  rw [Bool.and_eq_true] at h
  exact inP_iff.1 h.1
theorem Bd.no {W H : Nat} {S : Int → Int → Bool} (h : Bd W H S) {x y : Int} (hn : ¬ (0 ≤ x ∧ x < (W : Int) ∧ 0 ≤ y ∧ y < (H : Int))) : S x y = false := by
  cases hs : S x y
  · rfl
  · exact absurd (h x y hs) hn
theorem Bd.mono {W H W' H' : Nat} {S : Int → Int → Bool} (h : Bd W H S) (hw : W ≤ W') (hh : H ≤ H') : Bd W' H' S := fun x y hs => by
  have := h x y hs
  omega
theorem Bd.sub {W H : Nat} {S T : Int → Int → Bool} (h : Bd W H S) (hs : ∀ x y, T x y = true → S x y = true) : Bd W H T := fun x y ht => h x y (hs x y ht)
theorem gS_nat (W H : Nat) (d : Nat → Bool) (x y : Nat) (hx : x < W) (hy : y < H) : gS W H d (x : Int) (y : Int) = d (y * W + x) := by
  unfold gS
  rw [inP_iff.2 (by omega)]
  simp
theorem place_lt {W H x y : Nat} (hx : x < W) (hy : y < H) : y * W + x < W * H := by
  have h : (y + 1) * W ≤ H * W := Nat.mul_le_mul_right _ (by omega)
  rw [Nat.mul_comm H W, Nat.succ_mul] at h
  omega
theorem place_x {W x y : Nat} (hx : x < W) : (y * W + x) % W = x := by rw [Nat.mul_comm, Nat.mul_add_mod, Nat.mod_eq_of_lt hx]
theorem place_y {W x y : Nat} (hx : x < W) : (y * W + x) / W = y := by rw [Nat.mul_comm, Nat.mul_add_div (by omega), Nat.div_eq_of_lt hx, Nat.add_zero]
theorem place_of {W H i : Nat} (hi : i < W * H) : i % W < W ∧ i / W < H ∧ i / W * W + i % W = i := by
  have hw : 0 < W := by
    rcases Nat.eq_zero_or_pos W with e | e
    · rw [e] at hi; simp at hi
    · exact e
  refine ⟨Nat.mod_lt _ hw, Nat.div_lt_of_lt_mul hi, ?_⟩
  rw [Nat.mul_comm]
  exact Nat.div_add_mod i W
theorem sD_gS {W H : Nat} (d : Nat → Bool) {i : Nat} (hi : i < W * H) : sD W (gS W H d) i = d i := by
  obtain ⟨h1, h2, h3⟩ := place_of hi
  unfold sD
  rw [gS_nat W H d _ _ h1 h2, h3]
theorem sT_gS (W H : Nat) (d : Nat → Bool) : sT W H (gS W H d) = gText W H d := gText_congr fun _ hi => sD_gS d hi
/-- A set and a grid that agree. -/
theorem sT_of {W H : Nat} {S : Int → Int → Bool} {d : Nat → Bool} (h : ∀ x y : Nat, x < W → y < H → S (x : Int) (y : Int) = d (y * W + x)) : sT W H S = gText W H d := gText_congr fun i hi => by
  obtain ⟨h1, h2, h3⟩ := place_of hi
  unfold sD
  rw [h _ _ h1 h2, h3]
theorem sT_congr {W H : Nat} {S T : Int → Int → Bool} (h : ∀ x y, inP W H x y = true → S x y = T x y) : sT W H S = sT W H T := gText_congr fun i hi => by
  obtain ⟨h1, h2, h3⟩ := place_of hi
  unfold sD
  generalize i % W = a at *
  generalize i / W = b at *
  exact h _ _ (inP_iff.2 (by omega))
theorem eq_gS {W H : Nat} {S : Int → Int → Bool} {d : Nat → Bool} (hb : Bd W H S) (h : ∀ x y : Nat, x < W → y < H → S (x : Int) (y : Int) = d (y * W + x)) (x y : Int) : S x y = gS W H d x y := by
  by_cases hp : 0 ≤ x ∧ x < (W : Int) ∧ 0 ≤ y ∧ y < (H : Int)
  · obtain ⟨a, rfl⟩ := Int.eq_ofNat_of_zero_le hp.1
    obtain ⟨b, rfl⟩ := Int.eq_ofNat_of_zero_le hp.2.2.1
    rw [h a b (by omega) (by omega), gS_nat W H d a b (by omega) (by omega)]
  · rw [hb.no hp, (gS_bd W H d).no hp]

/-! ### turned, mirrored, with other dots, joined -/
theorem sT_turn (W H : Nat) (d : Nat → Bool) : sT H W (fun x y => gS W H d y ((H : Int) - 1 - x)) = gText H W (tD W H d) := sT_of fun x y hx hy => by
  show gS W H d (y : Int) ((H : Int) - 1 - x) = tD W H d (y * H + x)
  rw [show (H : Int) - 1 - (x : Int) = ((H - 1 - x : Nat) : Int) by omega, gS_nat W H d _ _ hy (by omega)]
  unfold tD
  rw [place_x hx, place_y hx]
theorem turn_bd {W H : Nat} {S : Int → Int → Bool} (h : Bd W H S) : Bd H W (fun x y => S y ((H : Int) - 1 - x)) := fun x y hs => by
  have := h _ _ hs
  omega
theorem sT_mirror (W H : Nat) (d : Nat → Bool) : sT W H (fun x y => gS W H d ((W : Int) - 1 - x) y) = gText W H (mD W d) := sT_of fun x y hx hy => by
  show gS W H d ((W : Int) - 1 - x) (y : Int) = mD W d (y * W + x)
  rw [show (W : Int) - 1 - (x : Int) = ((W - 1 - x : Nat) : Int) by omega, gS_nat W H d _ _ (by omega) hy]
  unfold mD
  rw [place_x hx, place_y hx]
theorem mirror_bd {W H : Nat} {S : Int → Int → Bool} (h : Bd W H S) : Bd W H (fun x y => S ((W : Int) - 1 - x) y) := fun x y hs => by
  have := h _ _ hs
  omega
theorem sT_other (W H : Nat) (d : Nat → Bool) : sT W H (fun x y => inP W H x y && !gS W H d x y) = gText W H (oD d) := sT_of fun x y hx hy => by
  show (inP W H (x : Int) (y : Int) && !gS W H d (x : Int) (y : Int)) = oD d (y * W + x)
  rw [gS_nat W H d _ _ hx hy, inP_iff.2 (by omega)]
  rfl
theorem sT_beside (W V H : Nat) (d e : Nat → Bool) : sT (W + V) H (uS (fun x y => gS V H e (x - W) y) (gS W H d)) = gText (W + V) H (bD W V d e) := sT_of fun x y hx hy => by
  show (gS V H e ((x : Int) - W) (y : Int) || gS W H d (x : Int) (y : Int)) = bD W V d e (y * (W + V) + x)
  unfold bD
  rw [place_x hx, place_y hx]
  by_cases h : x < W
  · rw [if_pos h, (gS_bd V H e).no (by omega), gS_nat W H d _ _ h hy]
    rfl
  · rw [if_neg h, (gS_bd W H d).no (by omega), show (x : Int) - (W : Int) = ((x - W : Nat) : Int) by omega, gS_nat V H e _ _ (by omega) hy, Bool.or_false]
theorem beside_bd {W V H : Nat} {S T : Int → Int → Bool} (h : Bd W H S) (k : Bd V H T) : Bd (W + V) H (uS (fun x y => T (x - W) y) S) := fun x y hs => by
  unfold uS at hs
  rw [Bool.or_eq_true] at hs
  rcases hs with hs | hs
  · have := k _ _ hs
    omega
  · have := h _ _ hs
    omega
theorem sT_below (W H G : Nat) (d e : Nat → Bool) : sT W (H + G) (uS (fun x y => gS W G e x (y - H)) (gS W H d)) = gText W (H + G) (uD W H d e) := sT_of fun x y hx hy => by
  show (gS W G e (x : Int) ((y : Int) - H) || gS W H d (x : Int) (y : Int)) = uD W H d e (y * W + x)
  unfold uD
  by_cases h : y < H
  · rw [if_pos (place_lt hx h), (gS_bd W G e).no (by omega), gS_nat W H d _ _ hx h]
    rfl
  · have e1 : W * H ≤ y * W := by
      have : H * W ≤ y * W := Nat.mul_le_mul_right _ (by omega)
      rw [Nat.mul_comm H W] at this
      exact this
    have e2 : (y - H) * W = y * W - W * H := by rw [Nat.sub_mul, Nat.mul_comm H W]
    rw [if_neg (by omega), (gS_bd W H d).no (by omega), show (y : Int) - (H : Int) = ((y - H : Nat) : Int) by omega, gS_nat W G e _ _ hx (by omega), Bool.or_false, e2]
    congr 1
    omega
theorem below_bd {W H G : Nat} {S T : Int → Int → Bool} (h : Bd W H S) (k : Bd W G T) : Bd W (H + G) (uS (fun x y => T x (y - H)) S) := fun x y hs => by
  unfold uS at hs
  rw [Bool.or_eq_true] at hs
  rcases hs with hs | hs
  · have := k _ _ hs
    omega
  · have := h _ _ hs
    omega

/-! ### borders -/
theorem nbs_any (W H : Nat) (d : Nat → Bool) (x y : Nat) (hx : x < W) (hy : y < H) (f : Bool → Bool) (h0 : f false = true) :
    (decide ((nbs W H (y * W + x)).length < 4) || (nbs W H (y * W + x)).any fun j => f (d j)) = (f (gS W H d ((x : Int) - 1) y) || f (gS W H d ((x : Int) + 1) y) || f (gS W H d x ((y : Int) - 1)) || f (gS W H d x ((y : Int) + 1))) := by
  have hp := place_lt hx hy
  have hh : W * (H - 1) + W = W * H := by
    obtain ⟨n, rfl⟩ : ∃ n, H = n + 1 := ⟨H - 1, by omega⟩
    rw [Nat.add_sub_cancel, Nat.mul_add, Nat.mul_one]
  have c3 : W ≤ y * W + x ↔ 0 < y := by
    constructor
    · intro h
      rcases Nat.eq_zero_or_pos y with e | e
      · rw [e] at h; omega
      · exact e
    · intro h
      have := Nat.mul_le_mul_right W h
      omega
  have c4 : y * W + x < W * (H - 1) ↔ y < H - 1 := by
    constructor
    · intro h
      rcases Nat.lt_or_ge y (H - 1) with e | e
      · exact e
      · have := Nat.mul_le_mul_left W e
        rw [Nat.mul_comm W y] at this
        omega
    · intro h
      exact place_lt hx h
  have g1 : gS W H d ((x : Int) - 1) y = if 0 < x then d (y * W + x - 1) else false := by
    split
    · rw [show (x : Int) - 1 = ((x - 1 : Nat) : Int) by omega, gS_nat W H d _ _ (by omega) hy]
      congr 1
      omega
    · exact (gS_bd W H d).no (by omega)
  have g2 : gS W H d ((x : Int) + 1) y = if x < W - 1 then d (y * W + x + 1) else false := by
    split
    · rw [show (x : Int) + 1 = ((x + 1 : Nat) : Int) by omega, gS_nat W H d _ _ (by omega) hy]
      rfl
    · exact (gS_bd W H d).no (by omega)
  have g3 : gS W H d x ((y : Int) - 1) = if 0 < y then d (y * W + x - W) else false := by
    split
    · rename_i h
      rw [show (y : Int) - 1 = ((y - 1 : Nat) : Int) by omega, gS_nat W H d _ _ hx (by omega)]
      congr 1
      rw [Nat.sub_mul, Nat.one_mul]
      have := c3.2 h
      have := Nat.mul_le_mul_right W h
      omega
    · exact (gS_bd W H d).no (by omega)
  have g4 : gS W H d x ((y : Int) + 1) = if y < H - 1 then d (y * W + x + W) else false := by
    split
    · rw [show (y : Int) + 1 = ((y + 1 : Nat) : Int) by omega, gS_nat W H d _ _ hx (by omega), Nat.succ_mul]
      congr 1
      omega
    · exact (gS_bd W H d).no (by omega)
  rw [g1, g2, g3, g4]
  unfold nbs
  rw [place_x hx]
  simp only [c3, c4]
  by_cases a1 : 0 < x <;> by_cases a2 : x < W - 1 <;> by_cases a3 : 0 < y <;> by_cases a4 : y < H - 1 <;> simp [a1, a2, a3, a4, h0, Bool.or_assoc]
theorem brd_set (W H : Nat) (d : Nat → Bool) (x y : Int) : bS (gS W H d) x y = gS W H (brd W H d) x y := by
  refine eq_gS (d := brd W H d) ((gS_bd W H d).sub fun x y h => by unfold bS at h; exact (Bool.and_eq_true_iff.1 h).1) (fun x y hx hy => ?_) x y
  have h := nbs_any W H d x y hx hy (fun b => !b) rfl
  unfold bS brd
  rw [gS_nat W H d _ _ hx hy, h]
  cases d (y * W + x) <;> simp
theorem tkn_set (W H : Nat) (d : Nat → Bool) (x y : Int) : dS (gS W H d) (bS (gS W H d)) x y = gS W H (tkn W H d) x y := by
  refine eq_gS (d := tkn W H d) ((gS_bd W H d).sub fun x y h => by unfold dS at h; exact (Bool.and_eq_true_iff.1 h).1) (fun x y hx hy => ?_) x y
  unfold dS
  rw [brd_set, gS_nat W H _ _ _ hx hy, gS_nat W H _ _ _ hx hy]
  rfl
end Go.Proofs.YtppdjjdejggjaaaDoor
