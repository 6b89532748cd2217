/- Chapter 8: the frame of the law TimesPlace. -/
import Derived.Test.YtmjgjdebcmbjeaaTbN
namespace Go.Proofs.Ytmjgjdebcmbjeaa
open Go.RowKit

set_option maxHeartbeats 1600000 in
theorem lawLL_TimesPlace (A : Option Addr) (n c : Nat) (xs ys : List Int) (ok : Bool) (w : World) (hn : xs.length = n) (hm : n ≤ 1048576) (hl : ys.length ≤ 1000000000) (ha : Rd w w.heap.size A (i64s xs))
    (hs : ∀ (B : Option Addr) (d lo : Nat) (w : World), Own w lo w.heap.size B (i64s xs) → Calls Try.prog 50 #[.slice B n d] w (ResI ok ys w))
    (hi : ∀ (B : Option Addr) (d lo : Nat) (w : World), Own w lo w.heap.size B (i64s xs) → Calls Try.prog 51 #[.slice B n d] w (ResI ok ys w)) :
    Calls Try.prog 15 #[.slice A n c] w fun e w' => e = .returned (.bool true) ∧ Below w.heap.size w w' := by
  have HS := Lib.hid hs
  have HI := Lib.hid hi
  have HA := Lib.hid ha
  have HN := Lib.hid hn
  obtain ⟨p, hp⟩ : ∃ p, p = ys.length := ⟨_, rfl⟩
  have HP := Lib.hid hp.symm
  rw [← hp] at hl
  clear hs hi ha hn hp
  have hmi : (n : Int) ≤ 1048576 := by omega
  have hpi : (p : Int) ≤ 1000000000 := by omega
  go_enter Try.func15, Try.ntmps15
  go_wp2_with fail
  refine (toIntS_any A n c xs _ HN.out hm HA.out).mono ?_
  rintro e w1 ⟨⟨B1, d1, rfl, o1⟩, b1⟩
  go_wp2_with fail
  refine (HS.out B1 d1 _ w1 o1).mono ?_
  rintro e w2 ⟨A2, c2, rfl, o2, b2⟩
  rw [HP.out]
  have b02 : Below w.heap.size w w2 := b1.trans (b2.mono b1.size)
  have s12 : w.heap.size ≤ w1.heap.size := b1.size
  clear o1 b1
  go_wp2_with fail
  refine (toIntS_any A n c xs _ HN.out hm (fun h => by obtain ⟨ad, e1, e2, e3⟩ := (HA.out.below b02 (Nat.le_refl _)) h; exact ⟨ad, e1, Nat.lt_of_lt_of_le e2 b02.size, e3⟩)).mono ?_
  rintro e w3 ⟨⟨B3, d3, rfl, o3⟩, b3⟩
  have b03 : Below w.heap.size w w3 := b02.trans (b3.mono b02.size)
  have o2a := o2.below b3 (Nat.le_refl _)
  have s23 : w.heap.size ≤ w2.heap.size := b02.size
  clear o2 b02 b2
  go_wp2_with fail
  refine (HI.out B3 d3 _ w3 o3).mono ?_
  rintro e w4 ⟨A4, c4, rfl, o4, b4⟩
  rw [HP.out]
  have b04 : Below w.heap.size w w4 := b03.trans (b4.mono b03.size)
  have o3a := o3.below b4 (Nat.le_refl _)
  have o2b := o2a.below b4 b3.size
  have s34 : w2.heap.size ≤ w3.heap.size := b3.size
  have s45 : w3.heap.size ≤ w4.heap.size := b4.size
  clear o3 o2a b3 b03 b4
  go_wp2_with fail
  refine (eqIntS_same A4 A2 p c4 c2 _ _ _ _ ys _ HP.out hl o4 o2b).mono ?_
  rintro e w5 ⟨rfl, q5, rfl⟩
  have b05 : Below w.heap.size w (w4.drewN q5) := below_drewN b04 _
  go_wp2_with fail
  refine (toIntS_any A n c xs _ HN.out hm (fun h => by obtain ⟨ad, e1, e2, e3⟩ := (HA.out.below b05 (Nat.le_refl _)) h; exact ⟨ad, e1, Nat.lt_of_lt_of_le e2 b05.size, e3⟩)).mono ?_
  rintro e w6 ⟨⟨B6, d6, rfl, o6⟩, b6⟩
  have b06 : Below w.heap.size w w6 := b05.trans (b6.mono b05.size)
  have o4a := (o4.drewN q5).below b6 (Nat.le_refl _)
  have o3b := (o3a.drewN q5).below b6 s45
  have o2c := (o2b.drewN q5).below b6 (Nat.le_trans s34 s45)
  have s46 : w4.heap.size ≤ w6.heap.size := b6.size
  clear o4 o3a o2b b04 b05 b6
  go_wp2_with fail
  refine (eqIntS_same B3 B6 n d3 d6 _ _ _ _ xs _ HN.out (by omega) o3b o6).mono ?_
  rintro e w7 ⟨rfl, q7, rfl⟩
  go_wp2_with fail
  refine (markIntS_far8 B3 n d3 _ _ (i64s xs) 1 _ (by simp [HN.out]) (by omega) (by omega) (by omega) (o3b.drewN q7)).mono ?_
  rintro e w8 ⟨rfl, _, b8, f8⟩
  have b08 : Below w.heap.size w w8 := (below_drewN b06 q7).trans (b8.mono s23)
  have o4b := (o4a.drewN q7).far8 f8 (.inr (Nat.le_refl _))
  have o2d := (o2c.drewN q7).far8 f8 (.inl (Nat.le_refl _))
  have s48 : w4.heap.size ≤ w8.heap.size := Nat.le_trans s46 b8.size
  clear o3b o4a o2c b06 b8 f8
  go_wp2_with fail
  refine (eqIntS_same A4 A2 p c4 c2 _ _ _ _ ys _ HP.out hl o4b o2d).mono ?_
  rintro e w9 ⟨rfl, q9, rfl⟩
  go_wp2_with fail
  refine (markIntS_any A4 p c4 _ _ (i64s ys) 1 _ (by simp [HP.out]) hl (by omega) (by omega) (o4b.drewN q9)).mono ?_
  rintro e w10 ⟨rfl, o4c, b10⟩
  have b010 : Below w.heap.size w w10 := (below_drewN b08 q9).trans (b10.mono (Nat.le_trans s23 s34))
  have o2e := (o2d.drewN q9).below b10 s34
  have s10 : w4.heap.size ≤ w10.heap.size := Nat.le_trans s48 b10.size
  clear o4b o2d b08 b10
  go_wp2_with fail
  refine (heldIntS_any A4 p c4 _ _ 1 _ hl (by omega) (by omega) o4c).mono ?_
  rintro e w11 ⟨rfl, rfl⟩
  go_wp2_with fail
  refine (toIntS_any A n c xs _ HN.out hm (fun h => by obtain ⟨ad, e1, e2, e3⟩ := (HA.out.below b010 (Nat.le_refl _)) h; exact ⟨ad, e1, Nat.lt_of_lt_of_le e2 b010.size, e3⟩)).mono ?_
  rintro e w12 ⟨⟨B12, d12, rfl, o12⟩, b12⟩
  have b012 : Below w.heap.size w w12 := b010.trans (b12.mono b010.size)
  have o4d := o4c.below b12 s10
  have o2f := o2e.below b12 (Nat.le_trans s34 (Nat.le_trans s45 s10))
  have s12b : w10.heap.size ≤ w12.heap.size := b12.size
  clear o4c o2e b010 b12
  go_wp2_with fail
  refine (HI.out B12 d12 _ w12 o12).mono ?_
  rintro e w13 ⟨A13, c13, rfl, o13, b13⟩
  rw [HP.out]
  have b013 : Below w.heap.size w w13 := b012.trans (b13.mono b012.size)
  have o4e := o4d.below b13 (Nat.le_trans s10 s12b)
  have o2g := o2f.below b13 (Nat.le_trans s34 (Nat.le_trans s45 (Nat.le_trans s10 s12b)))
  clear o4d o2f b012 b13
  go_wp2_with fail
  refine (eqIntS_same A13 A2 p c13 c2 _ _ _ _ ys _ HP.out hl o13 o2g).mono ?_
  rintro e w14 ⟨rfl, q14, rfl⟩
  go_wp2_with fail
  refine (heldIntS_any A4 p c4 _ _ 1 _ hl (by omega) (by omega) (o4e.drewN q14)).mono ?_
  rintro e w15 ⟨rfl, rfl⟩
  go_wp2
  go_ret
  exact ⟨rfl, below_drewN b013 _⟩
end Go.Proofs.Ytmjgjdebcmbjeaa
