/- Chapter 6: the spot of a number and the way between two numbers, by the program. -/
import Derived.Test.YthnjjpiofgbngaaSiX
namespace Go.Proofs.Ythnjjpiofgbngaa
open Go.ChangeShapes Go.WideShapes Go.ChangeAt Go.RowKit

/-- A spiral and a number of it: where the number lies. -/
structure At (K : Kd) (R m : Nat) (u s n r b l x y : Int) (V : Int → Int) (w : World) (lo hi : Nat) : Prop where
  sp : IsSp K R m u s w lo hi
  fits : Fits 2 (-s) s n r V
  ring : IsRg s r b
  len : u * r = l
  told : Told K r b n x y
  n0 : 0 ≤ n
  n1 : n ≤ 10000000
theorem At.below {K : Kd} {R m : Nat} {u s n r b l x y : Int} {V : Int → Int} {w W : World} {lo hi : Nat} (h : At K R m u s n r b l x y V w lo hi) (hW : Below w.heap.size w W) : At K R m u s n r b l x y V W lo hi :=
  ⟨⟨h.sp.good, h.sp.hm, h.sp.hu, h.sp.hs, h.sp.s1, h.sp.s2, h.sp.own.below hW h.sp.hi, Nat.le_trans h.sp.hi hW.size⟩, h.fits, h.ring, h.len, h.told, h.n0, h.n1⟩
set_option maxRecDepth 4000 in
set_option maxHeartbeats 1600000 in
theorem vectorOf_any (K : Kd) (R F m : Nat) (u s n r b l x y : Int) (V : Int → Int) (w : World) (lo hi : Nat) (h : At K R m u s n r b l x y V w lo hi) :
    Calls Try.prog 66 #[.agg #[.slice (some ⟨R, 0, none⟩) m m, .int .i64 u, .func (.func F) #[] #[]], .int .i64 n] w fun e w' => e = .returned (.agg #[.int .i64 x, .int .i64 y]) ∧ Below w.heap.size w w' := by
  obtain ⟨l0, l1, m4, m6⟩ := len_of h.sp h.ring.r0 h.ring.r1 h.len
  have HR := Lib.hid fun W => ringOf_any R F m u s n r V W h.sp.hs h.sp.s1 h.sp.s2 h.fits
  have HSD : Hid (∀ W : World, Below w.heap.size w W → Calls Try.prog 97 #[.agg #[.slice (some ⟨R, 0, none⟩) m m, .int .i64 u, .func (.func F) #[] #[]], .int .i64 r] W fun e w' => (∃ A c, e = .returned (.slice A m c) ∧ Own w' W.heap.size w'.heap.size A (sds K r b l m)) ∧ Below W.heap.size W w') := Lib.hid fun W hW =>
    sidesOf_any K R F m u s r b l W lo hi (h.below hW).sp h.ring h.len
  have HON : Hid (∀ t, t < m → 1 ≤ n - (b + t * l) → n - (b + t * l) ≤ l → ∀ W : World, Calls Try.prog 84 #[.agg #[.int .i64 (cor K r l t).1, .int .i64 (cor K r l t).2], .agg #[.int .i64 (sst K t).1, .int .i64 (sst K t).2], .int .i64 (n - (b + t * l))] W fun e w' => e = .returned (.agg #[.int .i64 x, .int .i64 y]) ∧ Below W.heap.size W w') := Lib.hid fun t htm h1 h2 W => by
    obtain ⟨e0, e1⟩ : Lies K r l t x y (n - (b + t * l)) := by
      have := h.told.on t (by rw [h.sp.hm]; exact htm)
      rw [h.sp.hu, h.len] at this
      exact this h1 h2
    obtain ⟨_, r0, r1, b0, b1⟩ := h.ring
    obtain ⟨p0, p1, p2, p3⟩ := cor_b h.sp.good r l r0 l0 t
    obtain ⟨v0, v1⟩ := tl_b l0 l1 t (by omega)
    obtain ⟨s0, s1, s2, s3⟩ := h.sp.good.st ((t + 1) % K.m)
    exact ledBy_any _ _ _ _ _ _ _ W (led_small _ _ _ _ _ (by omega) (by omega) (by omega) (by omega) s0 s1 s2 s3 (by omega) (by omega)) e0 e1
  have HOFF : Hid ((∀ t, t < m → ¬ (1 ≤ n - (b + t * l) ∧ n - (b + t * l) ≤ l)) → x = 0 ∧ y = 0) := Lib.hid fun q => h.told.off fun t htm => by rw [h.sp.hu, h.len]; exact q t (by rw [← h.sp.hm]; exact htm)
  have HNB : Hid (∀ t : Nat, t < m → -1000000000 ≤ n - (b + t * l) ∧ n - (b + t * l) ≤ 1000000000) := Lib.hid fun t htm => by
    obtain ⟨v0, v1⟩ := tl_b l0 l1 t (by omega)
    have := h.n0
    have := h.n1
    have := h.ring.b0
    have := h.ring.b1
    omega
  clear h
  go_enter Try.func66, Try.ntmps66
  go_upto_region 1 with fail
  have hB := bl2 w (.cells #[.slice (some ⟨R, 0, none⟩) m m, .int .i64 u, .func (.func F) #[] #[]] 57) (.cells #[.int .i64 0, .int .i64 0] 53)
  have hT := (box3_new w (.slice (some ⟨R, 0, none⟩) m m) (.int .i64 u) (.func (.func F) #[] #[]) 57).alloc (.cells #[.int .i64 0, .int .i64 0] 53)
  have hP := boxw_new (w.alloc (.cells #[.slice (some ⟨R, 0, none⟩) m m, .int .i64 u, .func (.func F) #[] #[]] 57)) (.int .i64 0) (.int .i64 0) 53
  rw [show (w.alloc (.cells #[.slice (some ⟨R, 0, none⟩) m m, .int .i64 u, .func (.func F) #[] #[]] 57)).heap.size = w.heap.size + 1 by simp] at hP
  generalize (w.alloc (.cells #[.slice (some ⟨R, 0, none⟩) m m, .int .i64 u, .func (.func F) #[] #[]] 57)).alloc (.cells #[.int .i64 0, .int .i64 0] 53) = wb at *
  have HB := Lib.hid hB
  have HT := Lib.hid hT
  have HP := Lib.hid hP
  clear hB hT hP
  go_region_held3 (fun w' => w'.cell? ⟨w.heap.size, 0, none⟩ = some (.slice (some ⟨R, 0, none⟩) m m) ∧ w'.cell? ⟨w.heap.size, 1, none⟩ = some (.int .i64 u) ∧ w'.cell? ⟨w.heap.size, 2, none⟩ = some (.func (.func F) #[] #[]))
    (first | with_reducible exact HT.out.all | with_reducible exact HT.out.drew.all)
    (first
      | (go_at_call 74; refine (HR.out _).mono ?_; rintro e w1 ⟨rfl, hb1⟩; have HT := Lib.hid (HT.out.drew.below hb1); have HP := Lib.hid (HP.out.drew.below hb1); have HB := Lib.hid (HB.out.drew.trans (hb1.mono HB.out.drew.size)); clear hb1)
      | (go_at_call 97; refine (HSD.out _ HB.out).mono ?_; rintro e w2 ⟨⟨A, c, rfl, hO⟩, hb2⟩; have HO := Lib.hid hO; have HT := Lib.hid (HT.out.below hb2); have HP := Lib.hid (HP.out.below hb2); have HB2 := Lib.hid (HB.out.trans (hb2.mono HB.out.size)); clear hO hb2))
  obtain ⟨g, o, hA, hg1, hg2, _⟩ := HO.out.six_ (k := m) (t := 0) (by omega)
  subst hA
  go_wp2_with fail
  go_loopw [14] (fun i wr => ∃ t : Nat, t ≤ m ∧ i = .int .i64 (t : Int) ∧ Hid (Below w2.heap.size w2 wr ∧ ∀ j : Nat, j < t → ¬ (1 ≤ n - (b + j * l) ∧ n - (b + j * l) ≤ l))) (fun i _ => m - (intOf i).toNat)
  case atStart => exact ⟨0, by omega, by simp, Lib.hid ⟨Below.refl _ _, fun j hj => by omega⟩⟩
  case round =>
    obtain ⟨t, ht, rfl, hf⟩ := hrel
    by_cases hlt : t < m
    · have hlt2 : (t : Int) < (m : Int) := by omega
      obtain ⟨hb, hno⟩ := hf.out
      obtain ⟨g', o', hA, hg3, hg4, q0, q1, q2, q3, q4, q5⟩ := (HO.out.below hb (Nat.le_refl _)).six_ (k := m) hlt
      obtain ⟨eg, eo⟩ : g = g' ∧ o = o' := by simpa using hA
      rw [← eg, ← eo] at q0 q1 q2 q3 q4 q5
      have HPR := Lib.hid (HP.out.below hb)
      have HBR := Lib.hid hb
      have HNO := Lib.hid hno
      have HONt := Lib.hid (HON.out t hlt)
      obtain ⟨nb0, nb1⟩ := HNB.out t hlt
      obtain ⟨k, hk⟩ : ∃ k, k = n - (b + t * l) := ⟨_, rfl⟩
      rw [← hk] at HONt nb0 nb1
      have hwn : wrap64 (n - (b + t * l)) = k := by
        rw [← hk]
        exact IntWalk.wrap64_in k (by omega)
      have HK := Lib.hid hk
      clear hb hno hA hg3 hg4 eg eo hf nb0 nb1 hk
      generalize (cor K r l t).1 = cx at *
      generalize (cor K r l t).2 = cy at *
      generalize (sst K t).1 = sx at *
      generalize (sst K t).2 = sy at *
      generalize hnb : b + t * l = nb at *
      have HNB2 := Lib.hid hnb
      clear hnb
      by_cases hon : 1 ≤ k ∧ k ≤ l
      · have HI := Lib.hid (betr_yes hon.1 hon.2)
        have HL := Lib.hid (HONt.out hon.1 hon.2)
        clear hon
        go_wp2_with (first
          | (go_at_call 76; refine (rwithin_any _ _ _ _).mono ?_; rw [HI.out]; rintro e w3 ⟨rfl, rfl⟩)
          | (go_at_call 84; refine (HL.out _).mono ?_; rintro e w4 ⟨rfl, hb4⟩; have HP4 := Lib.hid ((HPR.out.alloc _).below hb4); obtain ⟨c0, f0, c1, f1, cz⟩ := HP4.out))
        have hB2 : Below w.heap.size w wr := HB2.out.trans (HBR.out.mono HB2.out.size)
        have hB4 : Below w.heap.size w w4 := (hB2.alloc hB2.size _).trans (hb4.mono (by have := hB2.size; simp; omega))
        obtain ⟨d0, d1⟩ := put2 c0 c1 (.int .i64 x) (.int .i64 y)
        have hB5 : Below w.heap.size w ((w4.setCell ⟨w.heap.size + 1, 0, none⟩ (.int .i64 x)).setCell ⟨w.heap.size + 1, 1, none⟩ (.int .i64 y)) := (hB4.setCell (by simp) _).setCell (by simp) _
        generalize ((w4.setCell ⟨w.heap.size + 1, 0, none⟩ (.int .i64 x)).setCell ⟨w.heap.size + 1, 1, none⟩ (.int .i64 y)) = wE at *
        exact bodyPost_ret (v := .agg #[.int .i64 x, .int .i64 y]) (by simp [results, Try.results66, go_sem, d0, d1]) rfl ⟨rfl, hB5⟩
      · have HI := Lib.hid (betr_no (x := k) (lo := 1) (hi := l) (by omega))
        go_wp2_with (first
          | (go_at_call 76; refine (rwithin_any _ _ _ _).mono ?_; rw [HI.out]; rintro e w3 ⟨rfl, rfl⟩))
        have HNO' : Hid (∀ j : Nat, j < t + 1 → ¬ (1 ≤ n - (b + j * l) ∧ n - (b + j * l) ≤ l)) := Lib.hid fun j hj => by
          rcases Nat.lt_or_ge j t with h1 | h1
          · exact HNO.out j h1
          · obtain rfl : j = t := by omega
            have := HK.out
            have := HNB2.out
            omega
        have HB4 := Lib.hid (HBR.out.alloc HBR.out.size (.cells #[.int .i64 cx, .int .i64 cy, .int .i64 nb, .int .i64 sx, .int .i64 sy, .int .i64 l] 77))
        go_roundw
        case rel => exact ⟨t + 1, by omega, by go_num, Lib.hid ⟨HB4.out, HNO'.out⟩⟩
        case measure => simp [intOf]; omega
    · obtain rfl : t = m := by omega
      obtain ⟨hx, hy⟩ := HOFF.out hf.out.2
      subst hx hy
      obtain ⟨c0, f0, c1, f1, cz⟩ := HP.out.below hf.out.1
      go_wp2
      have hB2 : Below w.heap.size w wr := HB2.out.trans (hf.out.1.mono HB2.out.size)
      obtain ⟨d0, d1⟩ := put2 c0 c1 (.int .i64 0) (.int .i64 0)
      have hB5 : Below w.heap.size w ((wr.setCell ⟨w.heap.size + 1, 0, none⟩ (.int .i64 0)).setCell ⟨w.heap.size + 1, 1, none⟩ (.int .i64 0)) := (hB2.setCell (by simp) _).setCell (by simp) _
      generalize ((wr.setCell ⟨w.heap.size + 1, 0, none⟩ (.int .i64 0)).setCell ⟨w.heap.size + 1, 1, none⟩ (.int .i64 0)) = wE at *
      exact bodyPost_ret (v := .agg #[.int .i64 0, .int .i64 0]) (by simp [results, Try.results66, go_sem, d0, d1]) rfl ⟨rfl, hB5⟩
end Go.Proofs.Ythnjjpiofgbngaa
