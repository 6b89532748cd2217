/- The texts XDtR XDtS XDtT XDtU XDvM XDuN XDuA XDuB XDuC XDuD XDuG XDuE joined. -/
import Derived.Test.YtkjibcnddknbjaaDoorMtC
import Derived.Deep.RegionHeld3
import Derived.Maps.RangeWalk
import Derived.WideKeyPair
import Derived.DeepKeys4
import Derived.WalkKit
import Derived.ProofKit
import Derived.OpenShut
import Derived.Deep.Draws
import Derived.Lib.Hide
import Derived.Deep.AppendLies
import Derived.BigRegion
import Derived.Laws.EntriesVeiled
/- Chapter 7: the specification's layers. -/
namespace Go.Proofs.YtkjibcnddknbjaaDoor
open Go.ChangeShapes Go.WideShapes Go.ChangeAt Go.RowKit

theorem lys_end (W H f : Nat) (d : Nat → Bool) (h : cnt (brd W H d) (W * H) = 0) : lys W H f d = [] := by
  cases f with
  | zero => rfl
  | succ f => simp [lys, h]
theorem lys_more (W H f : Nat) (d : Nat → Bool) (h : ¬ cnt (brd W H d) (W * H) = 0) : lys W H (f + 1) d = (cnt (brd W H d) (W * H) : Int) :: lys W H f (tkn W H d) := by
  simp [lys, h]
/-- How long a slice is. -/
def lenV : Value → Nat
  | .slice _ n _ => n
  | _ => 0
theorem lenV_slice (A : Option Addr) (n c : Nat) : lenV (.slice A n c) = n := rfl
theorem resI_of {w w' : World} {v : Value} {xs : List Int} {base : Nat} (h : w'.ownsRow base 3 1 v xs.length (i64s xs)) (hB : w.heap.size ≤ base) (hb : Below w.heap.size w w') : ResI true xs w (.returned (.tuple #[v, .bool true])) w' := by
  obtain ⟨A, c, rfl⟩ := row_form h
  exact ⟨A, c, rfl, (own_of_row h).wide hB (Nat.le_refl _), hb⟩
theorem Marks.kept {w w' : World} {base g n c : Nat} {d : Nat → Bool} {row : Option Nat} (h : Marks w base g n c d) (hg : w.grownBy w' row) (hne : row ≠ some g) : Marks w' base g n c d :=
  World.ownsRow.kept h hg (.inr fun e => hne (by rw [← e]; rfl))
end Go.Proofs.YtkjibcnddknbjaaDoor
/- Chapter 7: the specification's pictures of shapes. -/
namespace Go.Proofs.YtkjibcnddknbjaaDoor
open Go.ChangeShapes Go.WideShapes Go.ChangeAt Go.RowKit

/-- How far from 0. -/
def far0 (a : Int) : Int := max a (-a)
theorem far0_bds (a : Int) (h0 : -1000 ≤ a) (h1 : a ≤ 1000) : 0 ≤ far0 a ∧ far0 a ≤ 1000 := by unfold far0; omega
/-- Whether a place of a shape has a dot, by its kind. -/
def shp (kind : Nat) (k : Nat) (x y : Int) : Bool :=
  if kind = 116 then decide (x ≤ y)
  else if kind = 103 then decide (x = (k : Int) - 1) || decide (y = (k : Int) - 1)
  else if kind = 100 then decide (far0 (x - (k : Int) / 2) + far0 (y - (k : Int) / 2) ≤ (k : Int) / 2)
  else if kind = 104 then decide (far0 (x - (k : Int) / 2 + y - (k : Int) / 2) ≤ (k : Int) / 2)
  else true
def shD (kind k i : Nat) : Bool := shp kind k ((i % k : Nat) : Int) ((i / k : Nat) : Int)
theorem shD_at (kind k x y : Nat) (h : x < k) : shD kind k (y * k + x) = shp kind k (x : Int) (y : Int) := by
  unfold shD
  rw [Nat.mul_comm, Nat.mul_add_mod, Nat.mod_eq_of_lt h, Nat.mul_add_div (by omega), Nat.div_eq_of_lt h, Nat.add_zero]
end Go.Proofs.YtkjibcnddknbjaaDoor
/- Chapter 7: the specification's pictures beside and below each other. -/
namespace Go.Proofs.YtkjibcnddknbjaaDoor
open Go.ChangeShapes Go.WideShapes Go.ChangeAt Go.RowKit

theorem gText_len (W H : Nat) (d : Nat → Bool) (h : 1 ≤ H) : (gText W H d).length + 1 = H * (W + 1) := by
  have hr : ∀ r ∈ gRows W H d, r.length = W := by
    intro r hr
    obtain ⟨y, _, rfl⟩ := List.mem_map.1 hr
    exact gRow_len _ _ _
  have hn := gRows_len W H d
  unfold gText
  cases hg : gRows W H d with
  | nil => rw [hg] at hn; simp at hn; omega
  | cons r rs =>
    rw [hg] at hn hr
    simp only [joinP]
    rw [join_len 47 W rs r (fun x hx => hr x (by simp [hx])), hr r (by simp)]
    simp at hn
    rw [← hn, Nat.succ_mul]
    omega
theorem gText_no (W H : Nat) (d : Nat → Bool) (h0 : 1 ≤ H) (h : 24 < W ∨ 24 < H) : isPic (gText W H d) = false := by
  unfold isPic rowsOk
  rw [gText_parts W H d h0, gRows_head W H d h0, gRows_len, gRow_len]
  rcases h with h | h
  · rw [decide_eq_false (show ¬ W ≤ 24 by omega)]
    simp
  · rw [decide_eq_false (show ¬ H ≤ 24 by omega)]
    simp
theorem fold_app (b : UInt8) (xs : List (List UInt8)) : ∀ acc y : List UInt8, xs.foldl (fun acc x => acc ++ (b :: x)) (acc ++ y) = acc ++ xs.foldl (fun acc x => acc ++ (b :: x)) y := by
  induction xs with
  | nil => intro acc y; rfl
  | cons x xs ih =>
    intro acc y
    rw [List.foldl_cons, List.foldl_cons, List.append_assoc, ih]
theorem joinP_app (b : UInt8) (A B : List (List UInt8)) (ha : A ≠ []) (hb : B ≠ []) : joinP b (A ++ B) = joinP b A ++ (b :: joinP b B) := by
  cases A with
  | nil => exact absurd rfl ha
  | cons r rs =>
    cases B with
    | nil => exact absurd rfl hb
    | cons x xs =>
      simp only [List.cons_append, joinP, List.foldl_append, List.foldl_cons]
      rw [fold_app, show b :: x = [b] ++ x from rfl, fold_app]
      rfl
theorem gText_below (W H G : Nat) (d e : Nat → Bool) (h : 1 ≤ H) (g : 1 ≤ G) : gText W H d ++ (47 :: gText W G e) = gText W (H + G) (uD W H d e) := by
  unfold gText
  rw [← rows_below, joinP_app]
  · intro q
    have := gRows_len W H d
    rw [q] at this
    simp at this
    omega
  · intro q
    have := gRows_len W G e
    rw [q] at this
    simp at this
    omega
theorem doRows_gen (s : ByteArray) (w : World) (hs : s.size ≤ 2000000) :
    Calls Tryd.prog 6 #[.string s] w fun e w' => ∃ A n c, e = .returned (.tuple #[.slice A n c, .bool (isPic s.data.toList)]) ∧ Below w.heap.size w w' := by
  refine (doRows_any s w (by omega)).mono ?_
  rintro e w' ⟨⟨h, A, c, rfl, _⟩ | ⟨h, rfl⟩, hb⟩
  · exact ⟨A, _, c, by rw [show isPic s.data.toList = true from h], hb⟩
  · exact ⟨none, 0, 0, by rw [show isPic s.data.toList = false from h], hb⟩
theorem beside_at (W V H : Nat) (d e : Nat → Bool) (y : Nat) (h : y < H) : gRow W d y ++ gRow V e y = gRow (W + V) (bD W V d e) y := by
  have k : (List.zipWith (· ++ ·) (gRows W H d) (gRows V H e)).getD y [] = (gRows (W + V) H (bD W V d e)).getD y [] := by rw [rows_beside W V H d e]
  rw [gRows_at _ _ _ _ h] at k
  rw [← k]
  simp [List.getD, gRows, h]
theorem text_wide {W H c g lo : Nat} {d : Nat → Bool} {w : World} (hr : RowsAt w lo g H (gRows W H d)) (hc : H ≤ c) (w1 : W ≤ 50) (h0 : 1 ≤ H) (h1 : H ≤ 50) :
    Calls Tryd.prog 8 #[.slice (some ⟨g, 0, none⟩) H c] w fun e w' => e = .returned (.string (bt (gText W H d))) ∧ w = w' :=
  doText_any g 0 H c (gRows W H d) w (gRows_len W H d).symm h0 (by omega) hc (fun r hr => by obtain ⟨y, _, rfl⟩ := List.mem_map.1 hr; rw [gRow_len]; omega) (fun j hj => by rw [Nat.zero_add]; exact hr.cell j hj)
end Go.Proofs.YtkjibcnddknbjaaDoor
/- Chapter 7: the specification's pictures beside and below each other, 2. -/
namespace Go.Proofs.YtkjibcnddknbjaaDoor
open Go.ChangeShapes Go.WideShapes Go.ChangeAt Go.RowKit

theorem rows_pic (x : ByteArray) (w : World) (hs : x.size ≤ 2000000) (h : isPic x.data.toList = true) :
    Calls Tryd.prog 6 #[.string x] w fun e w' => ∃ g c, e = .returned (.tuple #[.slice (some ⟨g, 0, none⟩) (pH x.data.toList) c, .bool true]) ∧ pH x.data.toList ≤ c ∧ RowsAt w' w.heap.size g (pH x.data.toList) (gRows (pW x.data.toList) (pH x.data.toList) (pD x.data.toList)) ∧ Below w.heap.size w w' := by
  rw [pic_rows h]
  exact doRows_yes x w (by omega) h
theorem bt_self (s : ByteArray) : bt s.data.toList = s := by
  cases s
  simp [bt]
theorem below_text (s t : ByteArray) (a : isPic s.data.toList = true) (b : isPic t.data.toList = true) (h : pW s.data.toList = pW t.data.toList) :
    (s ++ ⟨#[47]⟩) ++ t = bt (gText (pW s.data.toList) (pH s.data.toList + pH t.data.toList) (uD (pW s.data.toList) (pH s.data.toList) (pD s.data.toList) (pD t.data.toList))) := by
  rw [← gText_below _ _ _ _ _ (pic_b a).h0 (pic_b b).h0, pic_text a, h, pic_text b]
  conv => lhs; rw [← bt_self s, ← bt_self t]
  rw [show (⟨#[47]⟩ : ByteArray) = bt [47] from rfl, bt_app, bt_app]
  simp
theorem pic_size (s : ByteArray) (a : isPic s.data.toList = true) : s.size ≤ 1000 := by
  have := pic_600 a
  have e : s.data.toList.length = s.size := by simp
  omega
end Go.Proofs.YtkjibcnddknbjaaDoor
/- Chapter 7: LeastPicture, by the specification. -/
namespace Go.Proofs.YtkjibcnddknbjaaDoor
open Go.ChangeShapes Go.WideShapes Go.ChangeAt Go.RowKit

theorem bt_toList (l : List UInt8) : (bt l).toList = l := by
  have h : (bt l).toList = (bt l).data.toList := ByteArray.toList_eq _
  rw [h]
  rfl
set_option maxRecDepth 8000 in
theorem spec_LeastPicture_no (s : ByteArray) (w : World) (hs : s.size ≤ 2000000) (h : isPic s.data.toList = false) :
    Calls Tryd.prog 4 #[.string s] w fun e w' => e = .returned (.tuple #[.string ⟨#[]⟩, .bool false]) ∧ Below w.heap.size w w' := by
  have HR := Lib.hid fun W => doRows_no s W (by omega) h
  clear h
  go_enter Tryd.func4, Tryd.ntmps4
  go_wp2_with (go_at_call 6; refine (HR.out _).mono ?_; rintro e w1 ⟨rfl, hb1⟩)
  go_ret2
  exact ⟨rfl, hb1⟩
/-- What the two rounds begin with; what they come to. -/
def qOf (W H : Nat) (d : Nat → Bool) (j : Nat) : Gc := if j = 0 then (W, H, d) else (W, H, mD W d)
def lOf (L : List UInt8) (W H : Nat) (d : Nat → Bool) : Nat → List UInt8
  | 0 => L
  | j + 1 => bst (lOf L W H d j) (pcOf (qOf W H d j)) 4
theorem qOf_w (W H : Nat) (d : Nat → Bool) (j : Nat) : (qOf W H d j).1 = W ∧ (qOf W H d j).2.1 = H := by
  unfold qOf
  split <;> exact ⟨rfl, rfl⟩
set_option maxRecDepth 8000 in
set_option maxHeartbeats 3200000 in
theorem spec_LeastPicture_yes (s : ByteArray) (W H n : Nat) (d : Nat → Bool) (w : World) (hp : IsP s W H n d) (h24 : H ≤ 24) :
    Calls Tryd.prog 4 #[.string s] w fun e w' => e = .returned (.tuple #[.string (bt (lOf s.data.toList W H d 2)), .bool true]) ∧ Below w.heap.size w w' := by
  obtain ⟨w0, w1, h0, h1, hn, HR⟩ := hp
  have HRR := Lib.hid HR
  have HMI := Lib.hid fun g c lo w' (a : H ≤ c) (b : RowsAt w' lo g H (gRows W H d)) => (doMirror_any g H c (gRows W H d) w' lo b h0 (by omega) a (fun j => by
    by_cases hj : j < H
    · rw [gRows_at W H d j hj, gRow_len]; omega
    · rw [List.getD_eq_getElem?_getD, List.getElem?_eq_none (by rw [gRows_len]; omega)]; simp))
  rw [rows_mirror] at HMI
  have HL2 := Lib.hid (show ∀ j, j < 2 → lOf s.data.toList W H d (j + 1) = bst (lOf s.data.toList W H d j) (pcOf (qOf W H d j)) 4 from fun j _ => rfl)
  have HL0 := Lib.hid (show s = bt (lOf s.data.toList W H d 0) from (bt_self s).symm)
  clear HR hn
  generalize lOf s.data.toList W H d = lf at *
  go_enter Tryd.func4, Tryd.ntmps4
  go_wp2_with (first
    | (go_at_call 6; refine (HRR.out _).mono ?_; rintro e w1 ⟨g, c, rfl, hc, hr, hb1⟩)
    | (go_at_call 7; refine (HMI.out g c _ _ hc hr).mono ?_; rintro e w2 ⟨g2, c2, rfl, hc2, hr2, hb2⟩))
  have hz1 : w.heap.size ≤ w1.heap.size := hb1.size
  have hz2 : w1.heap.size ≤ w2.heap.size := hb2.size
  have hg0 := hr.lo
  have hg2 := hr2.hi
  have hrk := hr.below hb2
  have hgl := hrk.hi
  obtain ⟨V, hV⟩ : ∃ V, V = w2.alloc (.cells #[.slice (some ⟨g, 0, none⟩) H c, .slice (some ⟨g2, 0, none⟩) H c2] 25) := ⟨_, rfl⟩
  rw [← hV]
  have k0 : V.cell? ⟨w2.heap.size, 0, none⟩ = some (.slice (some ⟨g, 0, none⟩) H c) := by rw [hV]; simp [go_sem]
  have k1 : V.cell? ⟨w2.heap.size, 1, none⟩ = some (.slice (some ⟨g2, 0, none⟩) H c2) := by rw [hV]; simp [go_sem]
  have HBV : Hid (Below w.heap.size w V) := Lib.hid (by rw [hV]; exact (hb1.trans (hb2.mono hz1)).alloc (by omega) _)
  have hzV : V.heap.size = w2.heap.size + 1 := by rw [hV]; simp
  have HQ : Hid (∀ j, j < 2 → ∃ g c, V.cell? ⟨w2.heap.size, j, none⟩ = some (.slice (some ⟨g, 0, none⟩) H c) ∧ H ≤ c ∧ g < w2.heap.size ∧ RowsAt V 0 g H (gRows (qOf W H d j).1 (qOf W H d j).2.1 (qOf W H d j).2.2)) := Lib.hid fun j hj => by
    have hbv : Below w2.heap.size w2 V := by rw [hV]; exact (Below.refl _ _).alloc (Nat.le_refl _) _
    have e : j = 0 ∨ j = 1 := by omega
    rcases e with rfl | rfl
    · have h := hrk.below hbv
      exact ⟨g, c, k0, hc, hgl, h.cell, Nat.zero_le _, h.hi, h.n⟩
    · have h := hr2.below hbv
      exact ⟨g2, c2, k1, hc2, hg2, h.cell, Nat.zero_le _, h.hi, h.n⟩
  clear hb1 hb2 hr hr2 hrk k0 k1 hV hg0 hg2 hgl hc hc2 HRR HMI
  have HQW := Lib.hid fun j => qOf_w W H d j
  generalize qOf W H d = qf at *
  generalize w2.heap.size = B at *
  rw [HL0.out]
  clear HL0
  go_loopw [6, 8, 9, 10, 24] (fun v _ _ _ i wr => ∃ j : Nat, j ≤ 2 ∧ i = .int .i64 (j : Int) ∧ v = .string (bt (lf j)) ∧ Hid (Below (B + 1) V wr)) (fun _ _ _ _ i _ => 2 - (intOf i).toNat)
  case atStart => exact ⟨0, by omega, by simp, rfl, Lib.hid (Below.refl _ _)⟩
  case round =>
    obtain ⟨j, hj, rfl, rfl, hb⟩ := hrel
    by_cases hlt : j < 2
    · have hlt2 : (j : Int) < 2 := by omega
      obtain ⟨g, c, hcell, hc, hgB, hrow⟩ := HQ.out j hlt
      have hcell2 : wr.cell? ⟨B, j, none⟩ = some (.slice (some ⟨g, 0, none⟩) H c) := (hb.out.cell (p := ⟨B, j, none⟩) (by simp)).trans hcell
      have hrow2 := hrow.under hb.out (by omega)
      obtain ⟨e1, e2⟩ := HQW.out j
      have hL := HL2.out j hlt
      have HGB := Lib.hid (gir_bd (qf j) (by rw [e1, e2]; omega))
      have HT := Lib.hid (show ∀ k, txt (itr (pcOf (qf j)) k) = gText (gir (qf j) k).1 (gir (qf j) k).2.1 (gir (qf j) k).2.2 from fun k => by rw [← pc_gir, txt_pc])
      have HR0 := Lib.hid hrow2
      have HLL := Lib.hid hL
      have HS0 : Hid (H = (gir (qf j) 0).2.1) := Lib.hid e2.symm
      have HR00 : Hid (RowsAt wr 0 g (gir (qf j) 0).2.1 (gRows (gir (qf j) 0).1 (gir (qf j) 0).2.1 (gir (qf j) 0).2.2)) := Lib.hid (by
        have h := HR0.out
        rw [← e2] at h
        exact h)
      have HBS := Lib.hid (show ∀ k, bst (lf j) (pcOf (qf j)) (k + 1) = mn (bst (lf j) (pcOf (qf j)) k) (gText (gir (qf j) k).1 (gir (qf j) k).2.1 (gir (qf j) k).2.2) from fun k => by rw [bst, HT.out])
      have HB0 := Lib.hid (show lf j = bst (lf j) (pcOf (qf j)) 0 from rfl)
      have HGN := Lib.hid (show ∀ k, gir (qf j) (k + 1) = gtn (gir (qf j) k) from fun _ => rfl)
      have hc0 : (gir (qf j) 0).2.1 ≤ c := by rw [← HS0.out]; exact hc
      rw [HS0.out] at hcell2
      clear hcell hrow hrow2 hL HR0 e1 e2 HT HS0 hc HQ HQW
      have HBR := Lib.hid hb.out
      rw [HB0.out]
      go_wp2
      generalize bst (lf j) (pcOf (qf j)) = bs at *
      generalize gir (qf j) = gq at *
      go_loopw [6, 8, 9, 10] (fun v r kv _ wk => ∃ k g c : Nat, k ≤ 4 ∧ kv = .int .i64 (k : Int) ∧ v = .string (bt (bs k)) ∧ r = .slice (some ⟨g, 0, none⟩) (gq k).2.1 c ∧ (gq k).2.1 ≤ c ∧ Hid (RowsAt wk 0 g (gq k).2.1 (gRows (gq k).1 (gq k).2.1 (gq k).2.2)) ∧ Hid (Below (B + 1) V wk)) (fun _ _ kv _ _ => 4 - (intOf kv).toNat)
      case atStart => exact ⟨0, g, c, by omega, by simp, rfl, rfl, hc0, HR00, HBR⟩
      case round =>
        obtain ⟨k, g, c, hk, rfl, rfl, rfl, hc, hR, hbk⟩ := hrel
        clear HR00 HBR hcell2
        by_cases hk4 : k < 4
        · have hk42 : (k : Int) < 4 := by omega
          obtain ⟨b0, b1, b2, b3⟩ := HGB.out k
          have hbs := HBS.out k
          have hgn := HGN.out k
          generalize gq k = q at *
          obtain ⟨W', H', d'⟩ := q
          dsimp only at *
          have HX := Lib.hid (text_of hR.out hc b1 b2 (by omega))
          have HY := Lib.hid (doTurn_any g W' H' c 0 d' _ b0 (by omega) b2 (by omega) hc hR.out)
          generalize gText W' H' d' = t at *
          cases hlt3 : Op.bytesLess t (bs k) with
          | true =>
            have hlt4 : Op.bytesLess (bt t).toList (bt (bs k)).toList = true := by rw [bt_toList, bt_toList]; exact hlt3
            have hm : bs (k + 1) = t := by rw [hbs]; unfold mn; rw [hlt3]; rfl
            have hle := hbk.out.size
            clear hbs hlt3
            go_wp2_with (first
              | (go_at_call 8; refine (HX.out).mono ?_; rintro e wx ⟨rfl, rfl⟩)
              | (go_at_call 9; refine (HY.out).mono ?_; rintro e wy ⟨g', c', rfl, hc', hr', hby⟩))
            have HRY : Hid (RowsAt wy 0 g' (gq (k + 1)).2.1 (gRows (gq (k + 1)).1 (gq (k + 1)).2.1 (gq (k + 1)).2.2)) := Lib.hid (by rw [hgn]; exact ⟨hr'.cell, Nat.zero_le _, hr'.hi, hr'.n⟩)
            have HBY := Lib.hid (hbk.out.trans (hby.mono (by omega)))
            clear hr' hby
            go_wp2
            go_roundw
            case rel => exact ⟨k + 1, g', c', by omega, by go_num, by rw [hm], by rw [hgn]; rfl, by rw [hgn]; exact hc', HRY, HBY⟩
            case measure => simp [intOf]; omega
          | false =>
            have hlt4 : Op.bytesLess (bt t).toList (bt (bs k)).toList = false := by rw [bt_toList, bt_toList]; exact hlt3
            have hm : bs (k + 1) = (bs k) := by rw [hbs]; unfold mn; rw [hlt3]; rfl
            have hle := hbk.out.size
            clear hbs hlt3
            go_wp2_with (first
              | (go_at_call 8; refine (HX.out).mono ?_; rintro e wx ⟨rfl, rfl⟩)
              | (go_at_call 9; refine (HY.out).mono ?_; rintro e wy ⟨g', c', rfl, hc', hr', hby⟩))
            have HRY : Hid (RowsAt wy 0 g' (gq (k + 1)).2.1 (gRows (gq (k + 1)).1 (gq (k + 1)).2.1 (gq (k + 1)).2.2)) := Lib.hid (by rw [hgn]; exact ⟨hr'.cell, Nat.zero_le _, hr'.hi, hr'.n⟩)
            have HBY := Lib.hid (hbk.out.trans (hby.mono (by omega)))
            clear hr' hby
            go_wp2
            go_roundw
            case rel => exact ⟨k + 1, g', c', by omega, by go_num, by rw [hm], by rw [hgn]; rfl, by rw [hgn]; exact hc', HRY, HBY⟩
            case measure => simp [intOf]; omega
        · obtain rfl : k = 4 := by omega
          have hl := HLL.out
          go_wp2
          go_roundw
          case rel => exact ⟨j + 1, by omega, by go_num, by rw [hl], hbk⟩
          case measure => simp [intOf]; omega
    · obtain rfl : j = 2 := by omega
      go_wp2
      go_ret2
      exact ⟨rfl, HBV.out.trans (hb.out.mono (by omega))⟩
end Go.Proofs.YtkjibcnddknbjaaDoor
/- Chapter 7: a map that has places for keys, as a set of places: what it holds, how it is ranged over. Of no one program. -/
namespace Go.Proofs.YtkjibcnddknbjaaDoor
open Go.ChangeShapes Go.WideShapes Go.ChangeAt Go.RowKit Go.Maps

/-- A place as a key, as a value. -/
def vk (x y : Int) : Lit := .string (keyBytes [.int .i64 x, .int .i64 y])
def vv (x y : Int) : Value := .agg #[.int .i64 x, .int .i64 y]
def wf2 (x y : Int) : Prop := (Lit.int .i64 x).wf = true ∧ (Lit.int .i64 y).wf = true
theorem wf2_of {x y : Int} (x0 : -9223372036854775808 ≤ x) (x1 : x ≤ 9223372036854775807) (y0 : -9223372036854775808 ≤ y) (y1 : y ≤ 9223372036854775807) : wf2 x y := ⟨WalkArith.wf_i64 ⟨x0, x1⟩, WalkArith.wf_i64 ⟨y0, y1⟩⟩
/-- A type of places as a key's type. -/
structure VKey (P : Program) (k : TypeId) : Prop where
  K : Keyed P k
  key : ∀ x y, wf2 x y → keyOf P k (vv x y) = some (vk x y)
  inv : ∀ key kl, keyOf P k key = some kl → ∃ x y, wf2 x y ∧ key = vv x y
section
variable {P : Program} {k : TypeId}
theorem VKey.inv2 (V : VKey P k) {key : Value} {kl : Lit} (h : keyOf P k key = some kl) : ∃ x y, wf2 x y ∧ key = vv x y ∧ kl = vk x y := by
  obtain ⟨x, y, hw, rfl⟩ := V.inv key kl h
  have := V.key x y hw
  rw [h] at this
  exact ⟨x, y, hw, rfl, Option.some.inj this⟩
theorem VKey.inj (V : VKey P k) {x y u v : Int} (h1 : wf2 x y) (h2 : wf2 u v) (h : vk x y = vk u v) : x = u ∧ y = v := by
  have e := V.K.inj (V.key x y h1) (by rw [h]; exact V.key u v h2)
  unfold vv at e
  simp at e
  exact e
theorem VKey.isKey (V : VKey P k) {x y : Int} (h : wf2 x y) : WideAt.IsKeyLit (vk x y) := V.K.key (V.key x y h)
theorem VKey.same (V : VKey P k) {x y u v : Int} (h1 : wf2 x y) (h2 : wf2 u v) : (vk x y).sameKey (vk u v) = (decide (x = u) && decide (y = v)) := by
  by_cases h : x = u ∧ y = v
  · obtain ⟨rfl, rfl⟩ := h
    rw [WideAt.sameKey_self (V.isKey h1)]
    simp
  · rw [sameKey_ne (fun e => h (V.inj h1 h2 e))]
    by_cases a : x = u
    · have : ¬ y = v := fun b => h ⟨a, b⟩
      simp [this]
    · simp [a]
/-- From the key's type alone. -/
theorem vkey_of {e : TypeId} (A : WideMaps.ArrKey P k e 2) (he : P.underlying e = some (.int .i64)) (hsz : ∃ m, P.types.size = m + 1) (K : Keyed P k) : VKey P k where
  K := K
  key := fun x y h => WideMaps.keyOf_pair A he hsz h.1 h.2
  inv := fun key kl h => by
    obtain ⟨xs, L, rfl, h1, h2⟩ := keyOf_top A.wide h
    obtain ⟨m, hm⟩ := hsz
    rw [hm] at h1
    unfold Program.keyLits at h1
    simp only [A.hu] at h1
    split at h1
    · rename_i hl
      rw [show List.range 2 = [0, 1] from rfl, List.mapM_cons, List.mapM_cons, List.mapM_nil] at h1
      obtain ⟨xs⟩ := xs
      rw [A.size] at hl
      match xs, hl with
      | [c0, c1], _ =>
        simp only [A.one, bind, pure, Option.map_eq_some_iff, Option.bind_eq_some_iff, Option.some.injEq] at h1
        obtain ⟨_, ⟨L0, g0, _, ⟨L1, g1, _, rfl, rfl⟩, rfl⟩, _⟩ := h1
        have one : ∀ (c : Value) (L0 : List Lit), P.keyLits (m + 1) e [c] = some L0 → ∃ a, c = .int .i64 a ∧ (Lit.int .i64 a).wf = true := by
          intro c L0 g
          unfold Program.keyLits at g
          rw [he] at g
          cases c <;> simp at g
          obtain ⟨⟨rfl, hw⟩, _⟩ := g
          exact ⟨_, rfl, hw⟩
        obtain ⟨a, rfl, ha⟩ := one c0 L0 (by simpa using g0)
        obtain ⟨b, rfl, hb⟩ := one c1 L1 (by simpa using g1)
        exact ⟨a, b, ⟨ha, hb⟩, rfl⟩
    · cases h1

/-! ### sets -/
/-- What a map's datum holds. -/
structure Has (D : DataW Unit) (S : Int → Int → Bool) : Prop where
  bd : Bd 100 100 S
  has : ∀ x y, wf2 x y → Maps.has D (vk x y) = S x y
/-- Block b is a map that has just the places of the set S. -/
def Dots (P : Program) (k : TypeId) (w : World) (b : Nat) (S : Int → Int → Bool) : Prop := ∃ D : DataW Unit, w.ownsMap P k unitElem b (Maps.size D) D ∧ Has D S
theorem Bd.wf {S : Int → Int → Bool} (h : Bd 100 100 S) {x y : Int} (hs : S x y = true) : wf2 x y := by
  have := h x y hs
  exact wf2_of (by omega) (by omega) (by omega) (by omega)
variable {w : World} {b n : Nat} {D : DataW Unit} {S T : Int → Int → Bool}
theorem owns_tight (h : w.ownsMap P k unitElem b n D) : w.ownsMap P k unitElem b (Maps.size D) D := by
  obtain ⟨es, clock, hb, F, hs, rfl⟩ := h
  exact ⟨es, clock, hb, F, by simp [Maps.size, length_sorted], rfl⟩
/-- The keys of a map's datum. -/
def keysOf : DataW Unit → List Lit
  | .map es => es.map (·.1)
  | _ => []
theorem keysOf_len (D : DataW Unit) : (keysOf D).length = Maps.size D := by cases D <;> simp [keysOf, Maps.size]
theorem owns_keys (V : VKey P k) (h : w.ownsMap P k unitElem b n D) : (keysOf D).Nodup ∧ ∀ kl, kl ∈ keysOf D ↔ Maps.has D kl = true ∧ ∃ x y, wf2 x y ∧ kl = vk x y := by
  have he := h.entries V.K
  obtain ⟨es, clock, hb, F, hs, rfl⟩ := h
  obtain ⟨es2, e2, hpw, hkey⟩ := he
  injection e2 with e2
  refine ⟨?_, fun kl => ?_⟩
  · show List.Pairwise (· ≠ ·) (((es.toList.map (WideElems.rg P k unitElem)).foldr DataW.insert []).map (·.1))
    rw [List.pairwise_map, e2]
    exact hpw
  · show kl ∈ (((es.toList.map (WideElems.rg P k unitElem)).foldr DataW.insert []).map (·.1)) ↔ _
    constructor
    · intro hm
      obtain ⟨p, hp, rfl⟩ := List.mem_map.1 hm
      refine ⟨List.any_eq_true.2 ⟨p, hp, WideAt.sameKey_self (hkey p (by rw [← e2]; exact hp))⟩, ?_⟩
      obtain ⟨x, hx, rfl⟩ := List.mem_map.1 (mem_sorted.1 hp)
      obtain ⟨y, hy⟩ := F.reads x hx
      obtain ⟨a, c, hw, _, e⟩ := V.inv2 (WideElems.rd_key hy)
      exact ⟨a, c, hw, by rw [WideElems.rg_of hy]; exact e⟩
    · rintro ⟨hh, _⟩
      obtain ⟨p, hp, hk⟩ := List.any_eq_true.1 hh
      exact List.mem_map.2 ⟨p, hp, WideAt.sameKey_eq hk⟩
/-- How many there are. -/
theorem has_size (V : VKey P k) (h : w.ownsMap P k unitElem b n D) (hs : Has D S) {W H : Nat} (hb : Bd W H S) : Maps.size D = cnt (sD W S) (W * H) := by
  obtain ⟨hnd, hmem⟩ := owns_keys V h
  have hW : ∀ x y, S x y = true → wf2 x y := fun x y hxy => hs.bd.wf hxy
  have hnd2 : (((List.range (W * H)).filter (sD W S)).map fun i => vk ((i % W : Nat) : Int) ((i / W : Nat) : Int)).Nodup := by
    have hr : ((List.range (W * H)).filter (sD W S)).Nodup := List.nodup_range.filter _
    refine List.pairwise_map.2 (hr.imp_of_mem (fun {i j} hi hj hne e => hne ?_))
    have hi2 := List.mem_filter.1 hi
    have hj2 := List.mem_filter.1 hj
    obtain ⟨e1, e3⟩ := V.inj (hW _ _ hi2.2) (hW _ _ hj2.2) e
    obtain ⟨_, _, a⟩ := place_of (List.mem_range.1 hi2.1)
    obtain ⟨_, _, c⟩ := place_of (List.mem_range.1 hj2.1)
    rw [← a, ← c, Int.ofNat_inj.1 e1, Int.ofNat_inj.1 e3]
  have hperm : (keysOf D).Perm (((List.range (W * H)).filter (sD W S)).map fun i => vk ((i % W : Nat) : Int) ((i / W : Nat) : Int)) := by
    refine (List.perm_ext_iff_of_nodup hnd hnd2).2 fun kl => ?_
    rw [hmem]
    constructor
    · rintro ⟨hh, x, y, hw, rfl⟩
      rw [hs.has x y hw] at hh
      have hbb := hb x y hh
      obtain ⟨a, rfl⟩ := Int.eq_ofNat_of_zero_le hbb.1
      obtain ⟨c, rfl⟩ := Int.eq_ofNat_of_zero_le hbb.2.2.1
      have ha : a < W := by omega
      have hc : c < H := by omega
      refine List.mem_map.2 ⟨c * W + a, List.mem_filter.2 ⟨List.mem_range.2 (place_lt ha hc), ?_⟩, ?_⟩
      · unfold sD
        rw [place_x ha, place_y ha]
        exact hh
      · rw [place_x ha, place_y ha]
    · intro hm
      obtain ⟨i, hi, rfl⟩ := List.mem_map.1 hm
      have hi2 := List.mem_filter.1 hi
      exact ⟨by rw [hs.has _ _ (hW _ _ hi2.2)]; exact hi2.2, _, _, hW _ _ hi2.2, rfl⟩
  rw [← keysOf_len, hperm.length_eq, List.length_map, cnt, List.countP_eq_length_filter]
theorem has_small (V : VKey P k) (h : w.ownsMap P k unitElem b n D) (hs : Has D S) : Maps.size D ≤ 10000 := by
  rw [has_size V h hs hs.bd]
  exact cnt_le _ _

/-! ### carried -/
theorem Dots.lt (h : Dots P k w b S) : b < w.heap.size := let ⟨_, h, _⟩ := h; h.lt
theorem Dots.bd (h : Dots P k w b S) : Bd 100 100 S := let ⟨_, _, h⟩ := h; h.bd
theorem Dots.kept {w' : World} {row : Option Nat} (h : Dots P k w b S) (hg : w.grownBy w' row) (hne : some b ≠ row) : Dots P k w' b S := by
  obtain ⟨D, h, hs⟩ := h
  exact ⟨D, h.kept hg hne, hs⟩
theorem grown_of_below {B : Nat} {w w' : World} (h : Below B w w') (hB : w.heap.size ≤ B) : w.grownBy w' none := ⟨h.os, h.tape, h.output, h.size, fun i hi _ => h.block i (by omega)⟩
theorem Dots.below {w' : World} (h : Dots P k w b S) (hb : Below w.heap.size w w') : Dots P k w' b S := h.kept (grown_of_below hb (Nat.le_refl _)) (by simp)
theorem Dots.below2 {w' : World} {B : Nat} (h : Dots P k w b S) (hb : Below B w w') (hB : b < B) : Dots P k w' b S := by
  obtain ⟨D, ⟨es, clock, hh, r⟩, hs⟩ := h
  exact ⟨D, ⟨es, clock, (hb.block b hB).trans hh, r⟩, hs⟩
theorem Dots.alloc (h : Dots P k w b S) (o : Obj) : Dots P k (w.alloc o) b S := h.kept (World.grownBy_alloc w o none) (by simp)
theorem Dots.drew (h : Dots P k w b S) : Dots P k w.drew b S := h
theorem Dots.drewN (h : Dots P k w b S) (n : Nat) : Dots P k (w.drewN n) b S := h
theorem Dots.setCell (h : Dots P k w b S) {a : Addr} (ha : b ≠ a.block) (u : Value) : Dots P k (w.setCell a u) b S := by
  obtain ⟨D, h, hs⟩ := h
  exact ⟨D, h.setCell ha u, hs⟩
theorem Dots.congr (h : Dots P k w b S) (e : ∀ x y, S x y = T x y) : Dots P k w b T := by
  have : S = T := by funext x y; exact e x y
  rw [← this]
  exact h
theorem Dots.made (w : World) : Dots P k (w.alloc (.map #[] 0)) w.heap.size (fun _ _ => false) :=
  ⟨.map [], World.ownsMap_made w P k _, ⟨fun _ _ h => (by cases h), fun _ _ _ => rfl⟩⟩
theorem Dots.size (V : VKey P k) (h : Dots P k w b S) {W H : Nat} (hb : Bd W H S) {t e : TypeId} (ht : P.underlying t = some (.map k e)) (ty : TypeId) :
    (Builtin.len_ #[t] ty #[.map (some b)]).run P w = .ok (.int .i64 (cnt (sD W S) (W * H) : Nat)) w := by
  obtain ⟨D, h, hs⟩ := h
  rw [h.len ht ty, has_size V h hs hb]

/-! ### a set ranged over -/
/-- Block r is an iterator over the set S in block b, of which the places of L are still to come. -/
def Rg (P : Program) (k : TypeId) (w : World) (b r : Nat) (S L : Int → Int → Bool) : Prop :=
  ∃ (D : DataW Unit) (left : Lit → Bool) (c : Nat), w.ranges P k unitElem b r (Maps.size D) D left c ∧ Has D S ∧ (∀ x y, L x y = true → S x y = true) ∧ ∀ x y, wf2 x y → left (vk x y) = L x y
variable {L : Int → Int → Bool} {r : Nat}
theorem Rg.dots (h : Rg P k w b r S L) : Dots P k w b S := by
  obtain ⟨D, left, c, h, hs, _, _⟩ := h
  exact ⟨D, h.owns, hs⟩
theorem Rg.lt (h : Rg P k w b r S L) : r < w.heap.size := by
  obtain ⟨D, left, c, h, hs, _, _⟩ := h
  exact h.lt
theorem Rg.ne (h : Rg P k w b r S L) : r ≠ b := by
  obtain ⟨D, left, c, h, hs, _, _⟩ := h
  exact h.ne
theorem Rg.sub (h : Rg P k w b r S L) {x y : Int} (hl : L x y = true) : S x y = true := by
  obtain ⟨D, left, c, h, hs, h2, _⟩ := h
  exact h2 x y hl
theorem Rg.kept {w' : World} {row : Option Nat} (h : Rg P k w b r S L) (hg : w.grownBy w' row) (hb : some b ≠ row) (hr : some r ≠ row) : Rg P k w' b r S L := by
  obtain ⟨D, left, c, h, rest⟩ := h
  exact ⟨D, left, c, h.kept hg hb hr, rest⟩
theorem Rg.left {w' : World} {row : Option Nat} (h : Rg P k w b r S L) (hg : w.grownBy w' row) (hb : some b ≠ row) (hr : some r ≠ row) : w'.rangeLeft b r = w.rangeLeft b r := by
  obtain ⟨D, left, c, h, rest⟩ := h
  rw [h.left_eq, (h.kept hg hb hr).left_eq]
theorem Rg.alloc (h : Rg P k w b r S L) (o : Obj) : Rg P k (w.alloc o) b r S L := h.kept (World.grownBy_alloc w o none) (by simp) (by simp)
theorem Rg.below {w' : World} (h : Rg P k w b r S L) (hb : Below w.heap.size w w') : Rg P k w' b r S L := h.kept (grown_of_below hb (Nat.le_refl _)) (by simp) (by simp)
end

/-! ### at the operations -/
section
variable {P : Program} {k : TypeId} (V : VKey P k) (w : World) {ops : Array Oper} {rest : List Oper} {o : Oper} {a : Act} {Q : Exit → Act → World → Prop}
include V
/-- 'range m'. -/
theorem dots_range (hg : o.guard = none) (m : Operand) (t e : TypeId) (hop : o.op = Op.range t m) (ht : P.underlying t = some (.map k e)) (b : Nat) (S : Int → Int → Bool) (hm : a.eval m = .map (some b)) (h : Dots P k w b S)
    (hK : ∀ w', Rg P k w' b w.heap.size S S → w.grownBy w' none → w'.heap.size = w.heap.size + 1 → wpList P ops Q rest (a.put o.dst (.pointer (some ⟨w.heap.size, 0, none⟩))) w') :
    wpList P ops Q (o :: rest) a w := by
  obtain ⟨D, h, hs⟩ := h
  refine wpList_range_own w hg m t hop k e V.K ht unitElem b (Maps.size D) D hm h fun w' h1 h2 h3 => hK w' ⟨D, _, _, h1, hs, fun x y h => h, fun x y hw => hs.has x y hw⟩ h2 h3
/-- The step. -/
theorem dots_next (hg : o.guard = none) (it : Operand) (hop : o.op = Op.next it false) (b r : Nat) (S L : Int → Int → Bool) (hit : a.eval it = .pointer (some ⟨r, 0, none⟩)) (h : Rg P k w b r S L)
    (hDone : (∀ x y, L x y = false) → wpList P ops Q rest (a.put o.dst (.tuple #[.bool false])) w)
    (hMore : ∀ (x y : Int) (w' : World), L x y = true → Rg P k w' b r S (rS L x y) → w'.rangeLeft b r < w.rangeLeft b r → w.grownBy w' (some r) → w'.heap.size = w.heap.size →
      (Instr.entry (.pointer (some ⟨r, 0, none⟩))).run P w' = .ok (.tuple #[.agg #[.int .i64 x, .int .i64 y], .agg #[]]) w' → wpList P ops Q rest (a.put o.dst (.tuple #[.bool true, .agg #[.int .i64 x, .int .i64 y], .agg #[]])) w') :
    wpList P ops Q (o :: rest) a w := by
  obtain ⟨D, left, c, h, hs, hsub, hl⟩ := h
  refine wpList_next_ranges (α := Int × Int) (β := Unit) w hg it hop k V.K unitElem (fun p => vv p.1 p.2) (fun _ => .agg #[]) (fun key kl hk => by
    obtain ⟨x, y, _, e⟩ := V.inv key kl hk
    exact ⟨(x, y), e⟩) (fun v y hv => ⟨(), (unitElem_inv hv).1⟩) b r (Maps.size D) D left c hit h (fun _ h0 => hDone fun x y => ?_) (fun p _ kl y w' c' hkey hleft hv hat hr hlt hg1 hs1 hen => ?_)
  · cases hxy : L x y
    · rfl
    · have := hl x y (hs.bd.wf (hsub x y hxy))
      rw [h0, hxy] at this
      cases this
  · obtain ⟨x, y⟩ := p
    obtain ⟨x2, y2, hw, e1, e2⟩ := V.inv2 hkey
    obtain ⟨rfl, rfl⟩ : x = x2 ∧ y = y2 := by unfold vv at e1; simp at e1; exact e1
    have hL : L x y = true := by rw [← hl x y hw, ← e2]; exact hleft
    refine hMore x y w' hL ⟨D, _, c', hr, hs, fun u v huv => hsub u v (Bool.and_eq_true_iff.1 huv).1, fun u v huv => ?_⟩ (by rw [hr.left_eq, h.left_eq]; exact hlt) hg1 hs1 hen
    show (left (vk u v) && !(vk u v).sameKey kl) = rS L x y u v
    rw [hl u v huv, e2, V.same huv hw]
    rfl
/-- '_, ok := m[place]'. -/
theorem dots_has (hg : o.guard = none) (m x : Operand) (t e : TypeId) (hop : o.op = Op.lookup t m x true) (ht : P.underlying t = some (.map k e)) (hz : (zeroValue e).run P w = .ok (.agg #[]) w) (b : Nat) (S : Int → Int → Bool)
    (hm : a.eval m = .map (some b)) (h : Dots P k w b S) (u v : Int) (hx : a.eval x = .agg #[.int .i64 u, .int .i64 v]) (hw : wf2 u v)
    (hK : wpList P ops Q rest (a.put o.dst (.tuple #[.agg #[], .bool (S u v)])) w) :
    wpList P ops Q (o :: rest) a w := by
  obtain ⟨D, h, hs⟩ := h
  refine wpList_lookup_own_unit w hg m x t hop k e V.K ht hz b (Maps.size D) D hm h (vv u v) (vk u v) hx (V.key u v hw) ?_
  rw [hs.has u v hw]
  exact hK
/-- 'm[place] = struct{}{}'. -/
theorem dots_add (hg : o.guard = none) (m x v : Operand) (t e : TypeId) (hop : o.op = Op.mapUpdate t m x v) (ht : P.underlying t = some (.map k e)) (b : Nat) (S : Int → Int → Bool)
    (hm : a.eval m = .map (some b)) (h : Dots P k w b S) (p q : Int) (hx : a.eval x = .agg #[.int .i64 p, .int .i64 q]) (hv : a.eval v = .agg #[]) (hp : 0 ≤ p ∧ p < 100 ∧ 0 ≤ q ∧ q < 100)
    (hK : ∀ w', Dots P k w' b (aS S p q) → w.grownBy w' (some b) → wpList P ops Q rest (a.put o.dst undef) w') :
    wpList P ops Q (o :: rest) a w := by
  obtain ⟨D, h, hs⟩ := h
  have hw : wf2 p q := wf2_of (by omega) (by omega) (by omega) (by omega)
  have hsm := has_small V h hs
  refine wpList_mapUpdate_own w hg m x v t hop k e V.K ht unitElem b (Maps.size D) D hm h (by unfold maxLen; omega) (vv p q) (.agg #[]) (vk p q) hx hv (V.key p q hw) (.agg []) [] unitElem_mk fun w' h1 h2 => hK w' ⟨_, owns_tight h1, ⟨fun u v huv => ?_, fun u v huv => ?_⟩⟩ h2
  · unfold aS at huv
    rw [Bool.or_eq_true, Bool.and_eq_true, decide_eq_true_eq, decide_eq_true_eq] at huv
    rcases huv with huv | ⟨rfl, rfl⟩
    · exact hs.bd u v huv
    · omega
  · unfold aS
    by_cases e : u = p ∧ v = q
    · obtain ⟨rfl, rfl⟩ := e
      rw [has_put_same h.isMap (V.isKey hw)]
      simp
    · rw [has_put_other (fun e2 => e (V.inj huv hw e2)), hs.has u v huv]
      by_cases a1 : u = p
      · have a2 : ¬ v = q := fun a2 => e ⟨a1, a2⟩
        simp [a2]
      · simp [a1]
/-- 'delete(m, place)'. -/
theorem dots_del (hg : o.guard = none) (m x : Operand) (t e : TypeId) (hop : o.op = Op.call { callee := Callee.builtin Builtin.delete, args := #[m, x], argTypes := #[t, k] }) (ht : P.underlying t = some (.map k e)) (b : Nat) (S : Int → Int → Bool)
    (hm : a.eval m = .map (some b)) (h : Dots P k w b S) (p q : Int) (hx : a.eval x = .agg #[.int .i64 p, .int .i64 q]) (hw : wf2 p q)
    (hK : ∀ w', Dots P k w' b (rS S p q) → w.grownBy w' (some b) → wpList P ops Q rest (a.put o.dst (.tuple #[])) w') :
    wpList P ops Q (o :: rest) a w := by
  obtain ⟨D, h, hs⟩ := h
  refine wpList_delete_own w hg m x t k hop e V.K ht unitElem b (Maps.size D) D hm h (vv p q) (vk p q) hx (V.key p q hw) fun w' h1 h2 => hK w' ⟨_, owns_tight h1, ⟨fun u v huv => hs.bd u v (Bool.and_eq_true_iff.1 huv).1, fun u v huv => ?_⟩⟩ h2.grown
  unfold rS
  by_cases e : u = p ∧ v = q
  · obtain ⟨rfl, rfl⟩ := e
    rw [has_del_same]
    simp
  · rw [has_del_other (fun e2 => e (V.inj huv hw e2)), hs.has u v huv]
    by_cases a1 : u = p
    · have a2 : ¬ v = q := fun a2 => e ⟨a1, a2⟩
      simp [a2]
    · simp [a1]
/-- 'len(m)'. -/
theorem dots_len (hg : o.guard = none) (m : Operand) (t e : TypeId) (hop : o.op = Op.call { callee := Callee.builtin Builtin.len, args := #[m], argTypes := #[t] }) (ht : P.underlying t = some (.map k e)) (b W H : Nat) (S : Int → Int → Bool)
    (hm : a.eval m = .map (some b)) (h : Dots P k w b S) (hb : Bd W H S)
    (hK : wpList P ops Q rest (a.put o.dst (.int .i64 (cnt (sD W S) (W * H) : Nat))) w) :
    wpList P ops Q (o :: rest) a w := by
  obtain ⟨D, h, hs⟩ := h
  refine wpList_len_own w hg m t hop k e ht unitElem b (Maps.size D) D hm h ?_
  rw [has_size V h hs hb]
  exact hK
end
end Go.Proofs.YtkjibcnddknbjaaDoor
/- Chapter 7: the program's sets of dots: the key's type; has, add. -/
namespace Go.Proofs.YtkjibcnddknbjaaDoor
open Go.ChangeShapes Go.WideShapes Go.ChangeAt Go.RowKit Go.Maps

theorem akey : WideMaps.ArrKey Tryd.prog 47 3 2 := ⟨Tryd.underlying47, by kernel_rfl, by kernel_rfl, by kernel_rfl⟩
theorem vkey : VKey Tryd.prog 47 :=
  vkey_of akey Tryd.underlying3 ⟨Tryd.prog.types.size - 1, by kernel_rfl⟩ (Keyed.of_law akey.law)
theorem zeroU (w : World) : (zeroValue 65).run Tryd.prog w = .ok (.agg #[]) w := by kernel_rfl
/-- Block b holds the dots of the set S. -/
abbrev Ds (w : World) (b : Nat) (S : Int → Int → Bool) : Prop := Dots Tryd.prog 47 w b S
abbrev Rs (w : World) (b r : Nat) (S L : Int → Int → Bool) : Prop := Rg Tryd.prog 47 w b r S L
theorem has_any (b : Nat) (S : Int → Int → Bool) (x y : Int) (w : World) (h : Ds w b S) (hw : wf2 x y) :
    Calls Tryd.prog 25 #[.map (some b), .agg #[.int .i64 x, .int .i64 y]] w fun e w' => e = .returned (.bool (S x y)) ∧ Below w.heap.size w w' := by
  go_enter Tryd.func25, Tryd.ntmps25
  go_wp2_with (at_lookup; refine dots_has vkey _ rfl _ _ 32 65 rfl Tryd.underlying32 (zeroU _) b S rfl (h.alloc _) x y rfl hw ?_)
  go_ret
  exact ⟨rfl, ((Below.refl _ _).alloc (Nat.le_refl _) _).alloc (by simp) _⟩
theorem add_any (b : Nat) (S : Int → Int → Bool) (x y : Int) (w : World) (h : Ds w b S) (hp : 0 ≤ x ∧ x < 100 ∧ 0 ≤ y ∧ y < 100) :
    Calls Tryd.prog 22 #[.map (some b), .agg #[.int .i64 x, .int .i64 y]] w fun e w' => e = .returned (.tuple #[]) ∧ Ds w' b (aS S x y) ∧ w.grownBy w' (some b) := by
  go_enter Tryd.func22, Tryd.ntmps22
  go_wp2_with (at_mapUpdate; refine dots_add vkey _ rfl _ _ _ 32 65 rfl Tryd.underlying32 b S rfl (h.alloc _) x y rfl rfl hp ?_; intro w1 h1 g1)
  go_end0
  exact ⟨rfl, h1, (World.grownBy_alloc _ _ _).trans g1⟩
end Go.Proofs.YtkjibcnddknbjaaDoor
/- Chapter 7: the program's sets of dots: drop, and the library's Copy of a map into another one. -/
namespace Go.Proofs.YtkjibcnddknbjaaDoor
open Go.ChangeShapes Go.WideShapes Go.ChangeAt Go.RowKit Go.Maps

/-- The dots that stay where those of T that are no longer to come are dropped; those that are there where those are laid in. -/
def dlS (S T L : Int → Int → Bool) (x y : Int) : Bool := S x y && !(T x y && !L x y)
def ulS (S T L : Int → Int → Bool) (x y : Int) : Bool := S x y || (T x y && !L x y)
theorem pick_at {x y u v : Int} (h : ¬ (u = x ∧ v = y)) : (decide (u = x) && decide (v = y)) = false := by
  by_cases a : u = x
  · have : ¬ v = y := fun b => h ⟨a, b⟩
    simp [this]
  · simp [a]
theorem dl_start (S T : Int → Int → Bool) (u v : Int) : S u v = dlS S T T u v := by unfold dlS; cases T u v <;> simp
theorem dl_end {S T L : Int → Int → Bool} (h : ∀ x y, L x y = false) (u v : Int) : dlS S T L u v = dS S T u v := by unfold dlS dS; rw [h]; simp
theorem dl_step {S T L : Int → Int → Bool} {x y : Int} (hT : T x y = true) (u v : Int) : rS (dlS S T L) x y u v = dlS S T (rS L x y) u v := by
  unfold dlS rS
  by_cases e : u = x ∧ v = y
  · obtain ⟨rfl, rfl⟩ := e
    simp [hT]
  · rw [pick_at e]
    simp
theorem ul_start (S T : Int → Int → Bool) (u v : Int) : S u v = ulS S T T u v := by unfold ulS; cases T u v <;> simp
theorem ul_end {S T L : Int → Int → Bool} (h : ∀ x y, L x y = false) (u v : Int) : ulS S T L u v = uS S T u v := by unfold ulS uS; rw [h]; simp
theorem ul_step {S T L : Int → Int → Bool} {x y : Int} (hT : T x y = true) (u v : Int) : aS (ulS S T L) x y u v = ulS S T (rS L x y) u v := by
  unfold ulS rS aS
  by_cases e : u = x ∧ v = y
  · obtain ⟨rfl, rfl⟩ := e
    simp [hT]
  · rw [pick_at e]
    simp
end Go.Proofs.YtkjibcnddknbjaaDoor
/- Chapter 7: the program's vectors: led by steps; the four places beside one. -/
namespace Go.Proofs.YtkjibcnddknbjaaDoor
open Go.ChangeShapes Go.WideShapes Go.ChangeAt Go.RowKit Go.Maps

theorem infoVec : (Tryd.prog.info? 47).map (fun i => (i.zero, i.size, i.bytes)) = some (some (.agg #[.int .i64 0, .int .i64 0]), 2, 16) := by kernel_rfl
theorem dbl3 (w : World) (o p q : Obj) : Below w.heap.size w (((w.alloc o).alloc p).alloc q) := (((Below.refl _ _).alloc (Nat.le_refl _) _).alloc (by simp) _).alloc (by simp; omega) _
/-- The four steps, the four places beside one. -/
def stp : List (Int × Int) := [(1, 0), (0, 1), (-1, 0), (0, -1)]
def bsd (x y : Int) : List (Int × Int) := stp.map fun s => (x + s.1, y + s.2)
theorem bsd_len (x y : Int) : (bsd x y).length = 4 := rfl
/-- What a place is asked that is led by a vector a number of times, all small. -/
structure Sml (x y u v : Int) : Prop where
  x0 : -1000000 ≤ x
  x1 : x ≤ 1000000
  y0 : -1000000 ≤ y
  y1 : y ≤ 1000000
  u0 : -1000000 ≤ u
  u1 : u ≤ 1000000
  v0 : -1000000 ≤ v
  v1 : v ≤ 1000000
theorem cell_old {W : World} {p : Addr} {v : Value} (h : W.cell? p = some v) (o : Obj) : (W.alloc o).cell? p = some v := by
  rw [World.cell?_alloc_old _ _ _ (Nat.ne_of_lt (World.block_lt_of_cell? _ _ h))]
  exact h
theorem grown_refl (w : World) (row : Option Nat) : w.grownBy w row := ⟨rfl, rfl, rfl, Nat.le_refl _, fun _ _ _ => rfl⟩
theorem grown_tr {a b c : World} {row : Option Nat} (h : a.grownBy b row) (k : b.grownBy c row) : a.grownBy c row := h.andThen k fun _ e => Or.inr e
/-- A place appended to the call's own row of places. -/
theorem app_vec {ops : Array Oper} {rest : List Oper} {o : Oper} {a : Act} {Q : Exit → Act → World → Prop} (base : Nat) (w : World) (hgd : o.guard = none) (s x : Operand)
    (ho : o.op = .call { callee := .builtin .append, args := #[s, x], argTypes := #[52, 52] }) (v : Value) (n : Nat) (xs : List (Int × Int)) (hs : a.eval s = v) (hG : w.ownsRow base 47 2 v n (prs xs)) (hn : xs.length = n) (hB : base ≤ w.heap.size) (p q : Int)
    (hx : a.eval x = .slice (some ⟨w.heap.size, 0, none⟩) 1 1) (hl : n ≤ 100000)
    (h : ∀ v' w', w'.ownsRow base 47 2 v' (n + 1) (prs (xs ++ [(p, q)])) → w.grownBy w' v.ownBlock → wpList Tryd.prog ops Q rest (a.put o.dst v') w') : wpList Tryd.prog ops Q (o :: rest) a (w.alloc (.cells #[.int .i64 p, .int .i64 q] 47)) := by
  obtain ⟨i0, hi0, hz0, hz1, hz2⟩ := info_parts infoVec
  refine wpList_append_own _ hgd s x 52 ho base 47 i0 (.agg #[.int .i64 0, .int .i64 0]) 2 16 Tryd.underlying52 hi0 hz0 hz1 hz2 rfl (by decide) v _ _ hs (hG.alloc _) ⟨w.heap.size, 0, none⟩ 1 1 [.int .i64 p, .int .i64 q] hx rfl ?c1 ?c2 ?c3 ?c4 ?c5 ?_
  case c1 =>
    intro j u hj
    match j, hj with
    | 0, hj => simp at hj; subst hj; simp [Addr.add]
    | 1, hj => simp at hj; subst hj; simp [Addr.add]
  case c2 => intro u hu; simp at hu; rcases hu with rfl | rfl <;> rfl
  case c3 => unfold maxLen; omega
  case c4 => omega
  case c5 => simp; omega
  · intro v' w4 hown' hgrow _
    refine h v' w4 ?_ (grown_tr (World.grownBy_alloc w _ _) hgrow)
    rw [← prs_app]
    exact hown'
end Go.Proofs.YtkjibcnddknbjaaDoor
/- Chapter 7: what a border and the dots beside others hold while they are gathered; plain facts. -/
namespace Go.Proofs.YtkjibcnddknbjaaDoor

def tlS (T L : Int → Int → Bool) (x y : Int) : Bool := T x y && !L x y
/-- The border, as far as dots have come, and of the dot at hand the first places. -/
def brF (S L : Int → Int → Bool) (x y : Int) (l : List (Int × Int)) (u v : Int) : Bool := (bS S u v && !L u v) || ((decide (u = x) && decide (v = y)) && l.any fun p => !S p.1 p.2)
theorem bsd_any (x y : Int) (f : Int × Int → Bool) : (bsd x y).any f = (f (x + 1, y) || f (x, y + 1) || f (x - 1, y) || f (x, y - 1)) := by
  simp only [bsd, stp, List.map, List.any_cons, List.any_nil, Bool.or_false, Int.add_zero, Int.add_neg_eq_sub, Bool.or_assoc]
theorem br_start {S : Int → Int → Bool} (u v : Int) : false = (bS S u v && !S u v) := by
  unfold bS
  cases S u v <;> simp
theorem br_in (S L : Int → Int → Bool) (x y u v : Int) : (bS S u v && !L u v) = brF S L x y [] u v := by simp [brF]
theorem br_yes {S L : Int → Int → Bool} {x y : Int} {l : List (Int × Int)} {p : Int × Int} (h : S p.1 p.2 = false) (u v : Int) : aS (brF S L x y l) x y u v = brF S L x y (l ++ [p]) u v := by
  unfold aS brF
  simp only [List.any_append, List.any_cons, List.any_nil, h]
  cases (decide (u = x) && decide (v = y)) <;> simp
theorem br_no {S L : Int → Int → Bool} {x y : Int} {l : List (Int × Int)} {p : Int × Int} (h : S p.1 p.2 = true) (u v : Int) : brF S L x y l u v = brF S L x y (l ++ [p]) u v := by
  unfold brF
  simp only [List.any_append, List.any_cons, List.any_nil, h]
  simp
theorem br_out {S L : Int → Int → Bool} {x y : Int} (hS : S x y = true) (u v : Int) : brF S L x y (bsd x y) u v = (bS S u v && !rS L x y u v) := by
  unfold brF rS
  by_cases e : u = x ∧ v = y
  · obtain ⟨rfl, rfl⟩ := e
    rw [bsd_any]
    unfold bS
    rw [hS]
    simp only [decide_true, Bool.true_and, Bool.and_self, Bool.not_true, Bool.and_false, Bool.not_false, Bool.and_true]
    cases S (u - 1) v <;> cases S (u + 1) v <;> cases S u (v - 1) <;> cases S u (v + 1) <;> simp
  · rw [pick_at e]
    simp
theorem br_end {S L : Int → Int → Bool} (h : ∀ x y, L x y = false) (u v : Int) : (bS S u v && !L u v) = bS S u v := by rw [h]; simp
/-- The dots beside others, as far as those have come, and of the one at hand the first places. -/
def nbF (S T L : Int → Int → Bool) (l : List (Int × Int)) (u v : Int) : Bool := nbS S (tlS T L) u v || (S u v && l.any fun p => decide (u = p.1) && decide (v = p.2))
theorem nb_start {S T : Int → Int → Bool} (u v : Int) : false = nbS S (tlS T T) u v := by
  have h : ∀ a b, tlS T T a b = false := fun a b => by unfold tlS; cases T a b <;> rfl
  unfold nbS nS
  simp [h]
theorem nb_in (S T L : Int → Int → Bool) (u v : Int) : nbS S (tlS T L) u v = nbF S T L [] u v := by simp [nbF]
theorem nb_yes {S T L : Int → Int → Bool} {l : List (Int × Int)} {p : Int × Int} (h : S p.1 p.2 = true) (u v : Int) : aS (nbF S T L l) p.1 p.2 u v = nbF S T L (l ++ [p]) u v := by
  unfold aS nbF
  simp only [List.any_append, List.any_cons, List.any_nil, Bool.or_false]
  by_cases e : u = p.1 ∧ v = p.2
  · rw [e.1, e.2, h]
    simp
  · rw [pick_at e]
    simp
theorem nb_no {S T L : Int → Int → Bool} {l : List (Int × Int)} {p : Int × Int} (h : S p.1 p.2 = false) (u v : Int) : nbF S T L l u v = nbF S T L (l ++ [p]) u v := by
  unfold nbF
  simp only [List.any_append, List.any_cons, List.any_nil, Bool.or_false]
  by_cases e : u = p.1 ∧ v = p.2
  · rw [e.1, e.2, h]
    simp
  · rw [pick_at e]
    simp
theorem nb_out {S T L : Int → Int → Bool} {x y : Int} (hT : T x y = true) (u v : Int) : nbF S T L (bsd x y) u v = nbS S (tlS T (rS L x y)) u v := by
  have h : ∀ a b, tlS T (rS L x y) a b = (tlS T L a b || (decide (a = x) && decide (b = y))) := fun a b => by
    unfold tlS rS
    by_cases e : a = x ∧ b = y
    · obtain ⟨rfl, rfl⟩ := e
      simp [hT]
    · rw [pick_at e]
      simp
  unfold nbF nbS nS
  rw [bsd_any, h, h, h, h]
  have e1 : (decide (u = x + 1) && decide (v = y)) = (decide (u - 1 = x) && decide (v = y)) := by
    rw [show decide (u = x + 1) = decide (u - 1 = x) from decide_eq_decide.2 (by omega)]
  have e2 : (decide (u = x) && decide (v = y + 1)) = (decide (u = x) && decide (v - 1 = y)) := by
    rw [show decide (v = y + 1) = decide (v - 1 = y) from decide_eq_decide.2 (by omega)]
  have e3 : (decide (u = x - 1) && decide (v = y)) = (decide (u + 1 = x) && decide (v = y)) := by
    rw [show decide (u = x - 1) = decide (u + 1 = x) from decide_eq_decide.2 (by omega)]
  have e4 : (decide (u = x) && decide (v = y - 1)) = (decide (u = x) && decide (v + 1 = y)) := by
    rw [show decide (v = y - 1) = decide (v + 1 = y) from decide_eq_decide.2 (by omega)]
  simp only [e1, e2, e3, e4]
  generalize (decide (u - 1 = x) && decide (v = y)) = a1
  generalize (decide (u = x) && decide (v - 1 = y)) = a2
  generalize (decide (u + 1 = x) && decide (v = y)) = a3
  generalize (decide (u = x) && decide (v + 1 = y)) = a4
  cases S u v <;> cases tlS T L (u - 1) v <;> cases tlS T L (u + 1) v <;> cases tlS T L u (v - 1) <;> cases tlS T L u (v + 1) <;> cases a1 <;> cases a2 <;> cases a3 <;> cases a4 <;> rfl
theorem nb_end {S T L : Int → Int → Bool} (h : ∀ x y, L x y = false) (u v : Int) : nbS S (tlS T L) u v = nbS S T u v := by
  have h2 : ∀ a b, tlS T L a b = T a b := fun a b => by unfold tlS; rw [h]; simp
  unfold nbS nS
  rw [h2, h2, h2, h2]
theorem bsd_at (x y : Int) (j : Nat) (h : j < 4) : (bsd x y).take (j + 1) = (bsd x y).take j ++ [((bsd x y)[j]'(by rw [bsd_len]; exact h))] := List.take_succ_eq_append_getElem (by rw [bsd_len]; exact h)
theorem bsd_bds (x y : Int) (j : Nat) (h : j < 4) : x - 1 ≤ ((bsd x y)[j]'(by rw [bsd_len]; exact h)).1 ∧ ((bsd x y)[j]'(by rw [bsd_len]; exact h)).1 ≤ x + 1 ∧ y - 1 ≤ ((bsd x y)[j]'(by rw [bsd_len]; exact h)).2 ∧ ((bsd x y)[j]'(by rw [bsd_len]; exact h)).2 ≤ y + 1 := by
  match j, h with
  | 0, _ => simp [bsd, stp]; omega
  | 1, _ => simp [bsd, stp]; omega
  | 2, _ => simp [bsd, stp]; omega
  | 3, _ => simp [bsd, stp]; omega
end Go.Proofs.YtkjibcnddknbjaaDoor
/- Chapter 7: the program's sets of dots moved by whatever function moves places apart. -/
namespace Go.Proofs.YtkjibcnddknbjaaDoor
open Go.ChangeShapes Go.WideShapes Go.ChangeAt Go.RowKit Go.Maps

/-- What is moved already, by the places to which dots are moved: g tells whence. -/
def mvL (S L : Int → Int → Bool) (g1 g2 : Int → Int → Int) (u v : Int) : Bool := S (g1 u v) (g2 u v) && !L (g1 u v) (g2 u v)
theorem mv_start {S : Int → Int → Bool} {g1 g2 : Int → Int → Int} (u v : Int) : false = mvL S S g1 g2 u v := by
  unfold mvL
  cases S (g1 u v) (g2 u v) <;> rfl
theorem mv_end {S L : Int → Int → Bool} {g1 g2 : Int → Int → Int} (h : ∀ x y, L x y = false) (u v : Int) : mvL S L g1 g2 u v = S (g1 u v) (g2 u v) := by
  unfold mvL
  rw [h]
  simp
theorem mv_step {S L : Int → Int → Bool} {g1 g2 : Int → Int → Int} {x y p q : Int} (hS : S x y = true) (hg : ∀ u v, (u = p ∧ v = q) ↔ (g1 u v = x ∧ g2 u v = y)) (u v : Int) : aS (mvL S L g1 g2) p q u v = mvL S (rS L x y) g1 g2 u v := by
  unfold aS mvL rS
  by_cases e : u = p ∧ v = q
  · obtain ⟨a, b⟩ := (hg u v).1 e
    obtain ⟨rfl, rfl⟩ := e
    rw [a, b, hS]
    simp
  · rw [pick_at e, pick_at (fun e2 => e ((hg u v).2 e2))]
    simp
/-- A function value that moves the dots of S by f, in worlds that have grown from w. -/
structure Mv (F K : Nat) (S : Int → Int → Bool) (f1 f2 g1 g2 : Int → Int → Int) (w : World) : Prop where
  cf : ∀ (args : Array Value) (W : World), (callFunc F args).run Tryd.prog W = .ok (.enter F args) W
  mv : ∀ x y W, S x y = true → w.grownBy W none → Calls Tryd.prog F #[.agg #[.int .i64 x, .int .i64 y], .pointer (some ⟨K, 0, none⟩)] W fun e w' => e = .returned (.agg #[.int .i64 (f1 x y), .int .i64 (f2 x y)]) ∧ Below W.heap.size W w'
  inv : ∀ x y, S x y = true → ∀ u v, (u = f1 x y ∧ v = f2 x y) ↔ (g1 u v = x ∧ g2 u v = y)
  bd : ∀ x y, S x y = true → 0 ≤ f1 x y ∧ f1 x y < 100 ∧ 0 ≤ f2 x y ∧ f2 x y < 100
set_option maxRecDepth 4000 in
set_option maxHeartbeats 1600000 in
theorem moved_any (b F K : Nat) (S : Int → Int → Bool) (f1 f2 g1 g2 : Int → Int → Int) (w : World) (h : Ds w b S) (hm : Mv F K S f1 f2 g1 g2 w) :
    Calls Tryd.prog 29 #[.map (some b), .func (.func F) #[] #[.pointer (some ⟨K, 0, none⟩)]] w fun e w' => (∃ c, e = .returned (.map (some c)) ∧ w.heap.size ≤ c ∧ Ds w' c (fun u v => S (g1 u v) (g2 u v))) ∧ Below w.heap.size w w' := by
  have hmm := @run_makeMap Tryd.prog
  have hbl := h.lt
  have HBD := Lib.hid h.bd
  have HM := Lib.hid hm
  have hcf := hm.cf
  have HH := Lib.hid h
  clear h hm
  go_enter Tryd.func29, Tryd.ntmps29
  go_wp2_with (at_range; refine dots_range vkey _ rfl _ 32 65 rfl Tryd.underlying32 b S rfl (HH.out.alloc _) ?_; intro w0 hr0 hg0 hs0)
  go_frame
  have er : (w.alloc (.map #[] 0)).heap.size = w.heap.size + 1 := by simp
  rw [er] at hr0 hs0
  simp only [er]
  have HR0 := Lib.hid hr0
  have HD0 := Lib.hid (((Dots.made (P := Tryd.prog) (k := 47) w).kept hg0 (by simp)).congr (mv_start (S := S) (g1 := g1) (g2 := g2)))
  have HB0 := Lib.hid (((Below.refl w.heap.size w).alloc (Nat.le_refl _) (.map #[] 0)).grown hg0 (by simp) (by simp))
  clear hr0 hg0 hs0 er HH
  go_loopw [6] (fun _ wr => ∃ L, Hid (Rs wr b (w.heap.size + 1) S L) ∧ Hid (Ds wr w.heap.size (mvL S L g1 g2)) ∧ Hid (Below w.heap.size w wr)) (fun _ wr => wr.rangeLeft b (w.heap.size + 1))
  case atStart => exact ⟨S, HR0, HD0, HB0⟩
  case round =>
    obtain ⟨L, HR, HD, HB⟩ := hrel
    go_wp2_with (at_next; refine dots_next vkey _ rfl _ rfl b (w.heap.size + 1) S L rfl HR.out ?_ ?_)
    · intro h0
      have HE := Lib.hid (HD.out.congr (mv_end h0))
      clear h0
      go_wp2
      go_ret
      exact ⟨⟨_, rfl, Nat.le_refl _, HE.out⟩, HB.out⟩
    · intro x y w2 hL hr2 hlt hg2 hs2 hen
      have hS := HR.out.sub hL
      have HR2 := Lib.hid hr2
      have HD2 := Lib.hid (HD.out.kept hg2 (by simp))
      have HB2 := Lib.hid (HB.out.grown hg2 HB.out.size (by intro j hj; cases hj; omega))
      have HLT := Lib.hid hlt
      have HSS := Lib.hid hS
      have hbx := HBD.out x y hS
      have HIN := Lib.hid fun u v => mv_step (L := L) hS (HM.out.inv x y hS) u v
      have hbf := HM.out.bd x y hS
      clear hr2 hlt hL hS hg2 hs2
      have hz2 : w.heap.size + 1 < w2.heap.size := HR2.out.lt
      have HMV := Lib.hid (HM.out.mv x y _ HSS.out (grown_of_below (HB2.out.alloc HB2.out.size (.cells #[.int .i64 x, .int .i64 y] 47)) (Nat.le_refl _)))
      generalize f1 x y = p at *
      generalize f2 x y = q at *
      go_wp2_with (first
        | (refine (HMV.out).mono ?_; rintro e w3 ⟨rfl, hb3⟩; have HG3 := Lib.hid ((World.grownBy_alloc w2 (.cells #[.int .i64 x, .int .i64 y] 47) none).andThen (grown_of_below hb3 (Nat.le_refl _)) (by simp)); have HD3 := Lib.hid (HD2.out.kept HG3.out (by simp)); clear hb3)
        | (go_at_call 22; refine (add_any _ _ _ _ _ HD3.out hbf).mono ?_; rintro e w6 ⟨rfl, hd6, hg6⟩))
      have HD6 := Lib.hid (hd6.congr HIN.out)
      have HR6 := Lib.hid ((HR2.out.kept HG3.out (by simp) (by simp)).kept hg6 (by simp; omega) (by simp))
      have HL6 := Lib.hid ((HR2.out.kept HG3.out (by simp) (by simp)).left hg6 (by simp; omega) (by simp))
      have HL3 := Lib.hid (HR2.out.left HG3.out (by simp) (by simp))
      have HB6 := Lib.hid ((HB2.out.grown HG3.out HB2.out.size (by simp)).grown hg6 (HB2.out.grown HG3.out HB2.out.size (by simp)).size (by intro j hj; cases hj; exact Nat.le_refl _))
      clear hd6 hg6
      go_wp2
      go_roundw
      case rel => exact ⟨_, HR6, HD6, HB6⟩
      case measure => rw [HL6.out, HL3.out]; exact HLT.out
end Go.Proofs.YtkjibcnddknbjaaDoor
/- Chapter 7: the border of the program's sets of dots. -/
namespace Go.Proofs.YtkjibcnddknbjaaDoor
open Go.ChangeShapes Go.WideShapes Go.ChangeAt Go.RowKit Go.Maps

end Go.Proofs.YtkjibcnddknbjaaDoor
