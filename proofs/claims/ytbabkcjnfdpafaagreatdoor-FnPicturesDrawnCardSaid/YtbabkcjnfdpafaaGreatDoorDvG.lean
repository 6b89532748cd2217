/- Chapter 7: the piece that the program takes is the specification's. No program in sight. -/
import Derived.Test.YtbabkcjnfdpafaaGreatDoorDuH
import Derived.Test.YtbabkcjnfdpafaaGreatDoorMa
namespace Go.Proofs.YtbabkcjnfdpafaaGreatDoor
open Go.RowKit Go.Maps

theorem nbs_xy {W H x y : Nat} (hx : x < W) (hy : y < H) (j : Nat) : j ∈ nbs W H (y * W + x) ↔ (0 < x ∧ j = y * W + x - 1) ∨ (x + 1 < W ∧ j = y * W + x + 1) ∨ (0 < y ∧ j = y * W + x - W) ∨ (y + 1 < H ∧ j = y * W + x + W) := by
  have hh : W * (H - 1) + W = W * H := by
    obtain ⟨n, rfl⟩ : ∃ n, H = n + 1 := ⟨H - 1, by omega⟩
    rw [Nat.add_sub_cancel, Nat.mul_add, Nat.mul_one]
  have c3 : W ≤ y * W + x ↔ 0 < y := by
    constructor
    · intro h
      rcases Nat.eq_zero_or_pos y with e | e
      · rw [e] at h; omega
      · exact e
    · intro h
      have := Nat.mul_le_mul_right W h
      omega
  have c4 : y * W + x < W * (H - 1) ↔ y + 1 < H := by
    constructor
    · intro h
      rcases Nat.lt_or_ge y (H - 1) with e | e
      · omega
      · have := Nat.mul_le_mul_left W e
        rw [Nat.mul_comm W y] at this
        omega
    · intro h
      exact place_lt hx (by omega)
  rw [nbs_mem, place_x hx, c3, c4]
  constructor <;> rintro (⟨h, rfl⟩ | ⟨h, rfl⟩ | ⟨h, rfl⟩ | ⟨h, rfl⟩)
  · exact .inl ⟨h, rfl⟩
  · exact .inr (.inl ⟨by omega, rfl⟩)
  · exact .inr (.inr (.inl ⟨h, rfl⟩))
  · exact .inr (.inr (.inr ⟨h, rfl⟩))
  · exact .inl ⟨h, rfl⟩
  · exact .inr (.inl ⟨by omega, rfl⟩)
  · exact .inr (.inr (.inl ⟨h, rfl⟩))
  · exact .inr (.inr (.inr ⟨h, rfl⟩))
theorem nS_gS (W H : Nat) (d : Nat → Bool) {x y : Nat} (hx : x < W) (hy : y < H) : nS (gS W H d) x y = true ↔ ∃ j, j ∈ nbs W H (y * W + x) ∧ d j = true := by
  have g1 : gS W H d ((x : Int) - 1) y = true ↔ 0 < x ∧ d (y * W + x - 1) = true := by
    by_cases h : 0 < x
    · rw [show (x : Int) - 1 = ((x - 1 : Nat) : Int) by omega, gS_nat W H d _ _ (by omega) hy, show y * W + (x - 1) = y * W + x - 1 by omega]
      simp [h]
    · rw [(gS_bd W H d).no (by omega)]
      simp [h]
  have g2 : gS W H d ((x : Int) + 1) y = true ↔ x + 1 < W ∧ d (y * W + x + 1) = true := by
    by_cases h : x + 1 < W
    · rw [show (x : Int) + 1 = ((x + 1 : Nat) : Int) by omega, gS_nat W H d _ _ h hy, show y * W + (x + 1) = y * W + x + 1 by omega]
      simp [h]
    · rw [(gS_bd W H d).no (by omega)]
      simp [h]
  have g3 : gS W H d x ((y : Int) - 1) = true ↔ 0 < y ∧ d (y * W + x - W) = true := by
    by_cases h : 0 < y
    · have : (y - 1) * W + W = y * W := by
        obtain ⟨n, rfl⟩ : ∃ n, y = n + 1 := ⟨y - 1, by omega⟩
        rw [Nat.add_sub_cancel, Nat.succ_mul]
      rw [show (y : Int) - 1 = ((y - 1 : Nat) : Int) by omega, gS_nat W H d _ _ hx (by omega), show (y - 1) * W + x = y * W + x - W by omega]
      simp [h]
    · rw [(gS_bd W H d).no (by omega)]
      simp [h]
  have g4 : gS W H d x ((y : Int) + 1) = true ↔ y + 1 < H ∧ d (y * W + x + W) = true := by
    by_cases h : y + 1 < H
    · have : (y + 1) * W = y * W + W := Nat.succ_mul y W
      rw [show (y : Int) + 1 = ((y + 1 : Nat) : Int) by omega, gS_nat W H d _ _ hx h, show (y + 1) * W + x = y * W + x + W by omega]
      simp [h]
    · rw [(gS_bd W H d).no (by omega)]
      simp [h]
  rw [nS_iff, g1, g2, g3, g4]
  constructor
  · rintro (⟨h, k⟩ | ⟨h, k⟩ | ⟨h, k⟩ | ⟨h, k⟩)
    · exact ⟨_, (nbs_xy hx hy _).2 (.inl ⟨h, rfl⟩), k⟩
    · exact ⟨_, (nbs_xy hx hy _).2 (.inr (.inl ⟨h, rfl⟩)), k⟩
    · exact ⟨_, (nbs_xy hx hy _).2 (.inr (.inr (.inl ⟨h, rfl⟩))), k⟩
    · exact ⟨_, (nbs_xy hx hy _).2 (.inr (.inr (.inr ⟨h, rfl⟩))), k⟩
  · rintro ⟨j, hj, k⟩
    rcases (nbs_xy hx hy _).1 hj with ⟨h, rfl⟩ | ⟨h, rfl⟩ | ⟨h, rfl⟩ | ⟨h, rfl⟩
    · exact .inl ⟨h, k⟩
    · exact .inr (.inl ⟨h, k⟩)
    · exact .inr (.inr (.inl ⟨h, k⟩))
    · exact .inr (.inr (.inr ⟨h, k⟩))
theorem piece_pce {W H a : Nat} {d : Nat → Bool} {P : Int → Int → Bool} (hw : 0 < W) (ha : a < W * H) (hf : fstP W H d a)
    (hp : Piece (gS W H (rem W H d a)) ((a % W : Nat) : Int) ((a / W : Nat) : Int) P) (x y : Int) : P x y = gS W H (pce W H d a) x y := by
  have hbP : Bd W H P := (gS_bd W H (rem W H d a)).sub hp.sub
  have hax : a % W < W := Nat.mod_lt _ hw
  have hay : a / W < H := Nat.div_lt_of_lt_mul ha
  have haa : a / W * W + a % W = a := Nat.div_add_mod' a W
  have hPe : P = gS W H (sD W P) := by
    funext u v
    refine eq_gS hbP (fun u v hu hv => ?_) u v
    unfold sD
    rw [place_x hu, place_y hu]
  refine eq_gS hbP (fun u v hu hv => ?_) x y
  have hi := place_lt hu hv (H := H)
  rw [Bool.eq_iff_iff]
  constructor
  · intro h
    have key : ∀ u v, P u v = true → gS W H (pce W H d a) u v = true := by
      refine hp.lst (gS W H (pce W H d a)) ?_ ?_
      · rw [gS_nat W H _ _ _ hax hay, haa]
        simp [pce, Conn.here hf.1]
      · intro u v hs hn
        have hb := gS_bd W H _ u v hs
        obtain ⟨u, rfl⟩ := Int.eq_ofNat_of_zero_le hb.1
        obtain ⟨v, rfl⟩ := Int.eq_ofNat_of_zero_le hb.2.2.1
        have hu : u < W := by omega
        have hv : v < H := by omega
        rw [gS_nat W H _ _ _ hu hv] at hs ⊢
        obtain ⟨j, hj, hc⟩ := (nS_gS W H _ hu hv).1 hn
        have hc2 : Conn W H d a j := by simpa [pce] using hc
        have : Conn W H d a (v * W + u) := .step hc2 (nbs_symm (place_lt hu hv) hj) (rem_iff.1 hs).1
        simpa [pce] using this
    have := key _ _ h
    rw [gS_nat W H _ _ _ hu hv] at this
    exact this
  · intro h
    have hc : Conn W H d a (v * W + u) := by simpa [pce] using h
    have key : ∀ i, Conn W H d a i → sD W P i = true := by
      intro i hc
      induction hc with
      | here _ => exact hp.fst
      | @step i j hc hj hd ih =>
        have hil := conn_lt ha hc
        have hjl : j < W * H := conn_lt ha (.step hc hj hd)
        have hjx : j % W < W := Nat.mod_lt _ hw
        have hjy : j / W < H := Nat.div_lt_of_lt_mul hjl
        have hjj : j / W * W + j % W = j := Nat.div_add_mod' j W
        have hr := rem_of_conn ha hf (.step hc hj hd)
        refine hp.cls _ _ (by rw [gS_nat W H _ _ _ hjx hjy, hjj]; exact hr) ?_
        rw [hPe]
        exact (nS_gS W H _ hjx hjy).2 ⟨i, by rw [hjj]; exact nbs_symm hil hj, ih⟩
    have := key _ hc
    unfold sD at this
    rw [place_x hu, place_y hu] at this
    exact this
end Go.Proofs.YtbabkcjnfdpafaaGreatDoor
