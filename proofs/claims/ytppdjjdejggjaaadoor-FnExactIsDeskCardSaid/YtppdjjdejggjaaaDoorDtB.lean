/- Chapter 7: the specification's rows of a picture. -/
import Derived.Test.YtppdjjdejggjaaaDoorDtA
import Derived.Deep.DeepCutAuto
namespace Go.Proofs.YtppdjjdejggjaaaDoor
open Go.ChangeShapes Go.WideShapes Go.ChangeAt Go.RowKit

/-- A row as it must be. -/
def okRow (W : Nat) (r : List UInt8) : Bool := decide (r.length = W) && r.all isSgn
theorem rowsOk_iff (R : List (List UInt8)) : rowsOk R = true ↔ R.length ≤ 24 ∧ 1 ≤ (R.headD []).length ∧ (R.headD []).length ≤ 24 ∧ ∀ j (h : j < R.length), okRow (R.headD []).length R[j] = true := by
  unfold rowsOk
  simp only [Bool.and_eq_true, decide_eq_true_eq]
  constructor
  · rintro ⟨⟨⟨a, b⟩, c⟩, d⟩
    refine ⟨a, b, c, fun j h => ?_⟩
    have := (List.all_eq_true.1 d) _ (List.getElem_mem h)
    simpa [okRow] using this
  · rintro ⟨a, b, c, d⟩
    refine ⟨⟨⟨a, b⟩, c⟩, List.all_eq_true.2 fun r hr => ?_⟩
    obtain ⟨j, hj, rfl⟩ := List.getElem_of_mem hr
    have := d j hj
    simpa [okRow] using this
/-- What doRows answers, R the parts of the text. -/
def DoQ (R : List (List UInt8)) (w : World) (e : Ending) (w' : World) : Prop :=
  ((rowsOk R = true ∧ ∃ A c, e = .returned (.tuple #[.slice A R.length c, .bool true]) ∧ w'.ownsRow w.heap.size 9 1 (.slice A R.length c) R.length (strs R)) ∨
    (rowsOk R = false ∧ e = .returned (.tuple #[.slice none 0 0, .bool false]))) ∧ Below w.heap.size w w'
theorem sg_of (c : UInt8) : isSgn c = true ↔ ¬ ((c.toNat : Int) ≠ 111 ∧ (c.toNat : Int) ≠ 46) := by
  unfold isSgn
  simp only [Bool.or_eq_true, beq_iff_eq, ← UInt8.toNat_inj]
  have e1 : (111 : UInt8).toNat = 111 := rfl
  have e2 : (46 : UInt8).toNat = 46 := rfl
  rw [e1, e2]
  omega
set_option maxRecDepth 4000 in
set_option maxHeartbeats 1600000 in
theorem doRows_of (s : ByteArray) (R : List (List UInt8)) (w : World) (h62 : (s.size : Int) ≤ 600) (hn0 : 1 ≤ R.length) (hn1 : R.length ≤ 601)
    (hS : ∀ W : World, Calls Tryd.prog 17 #[.string s, .int .u8 47] W fun e w' => (∃ A c, e = .returned (.slice A R.length c) ∧ w'.ownsRow W.heap.size 9 1 (.slice A R.length c) R.length (strs R)) ∧ Below W.heap.size W w') :
    Calls Tryd.prog 40 #[.string s] w (DoQ R w) := by
  have HS := Lib.hid hS
  have HOK := Lib.hid (rowsOk_iff R)
  obtain ⟨n, hn⟩ : ∃ n, n = R.length := ⟨_, rfl⟩
  have HN := Lib.hid hn
  have hQ : Hid (∀ e w', DoQ R w e w' = (((rowsOk R = true ∧ ∃ A c, e = .returned (.tuple #[.slice A n c, .bool true]) ∧ w'.ownsRow w.heap.size 9 1 (.slice A n c) n (strs R)) ∨ (rowsOk R = false ∧ e = .returned (.tuple #[.slice none 0 0, .bool false]))) ∧ Below w.heap.size w w')) := Lib.hid fun e w' => by rw [hn]; rfl
  rw [← hn] at hn0 hn1 HS
  clear hS hn
  go_enter Tryd.func40, Tryd.ntmps40
  go_upto_region 4 with (go_at_call 17; refine (HS.out _).mono ?_; rintro e w1 ⟨⟨A, c, rfl, hrow⟩, hb1⟩; have HR := Lib.hid hrow; have HB := Lib.hid hb1; clear hrow hb1)
  obtain ⟨g, o, hA, hg1, hg2⟩ : ∃ g o, A = some ⟨g, o, none⟩ ∧ w.heap.size ≤ g ∧ g < w1.heap.size := by
    obtain ⟨g, o, a, b, c, _⟩ := (own_of_row HR.out).at_ (k := 0) (by rw [strs_len, ← HN.out]; omega)
    exact ⟨g, o, a, b, c⟩
  subst hA
  have HC : Hid (∀ j : Nat, j < n → w1.cell? ⟨g, o + j, none⟩ = some (.string (bt (R.getD j [])))) := Lib.hid fun j hj => by
    have hjl : j < R.length := by rw [← HN.out]; exact hj
    obtain ⟨g', o', hA, _, _, q, _⟩ := (own_of_row HR.out).at_ (k := j) (by rw [strs_len]; exact hjl)
    obtain ⟨rfl, rfl⟩ : g = g' ∧ o = o' := by simpa using hA
    rw [q]
    simp [strs, List.getD, hjl]
  have c0 : w1.cell? ⟨g, o, none⟩ = some (.string (bt (R.getD 0 []))) := HC.out 0 (by omega)
  have hW0 : (bt (R.getD 0 [])).size = (R.headD []).length := by
    rw [bt_size]
    cases R with
    | nil => rfl
    | cons r rs => rfl
  generalize bt (R.getD 0 []) = t0 at *
  obtain ⟨W, hW⟩ : ∃ W, W = t0.size := ⟨_, rfl⟩
  rw [← hW] at hW0
  rw [← hW0] at HOK
  have HWZ := Lib.hid hW
  clear HS hW0 hW
  by_cases hbig : 24 < n
  · have hno : rowsOk R = false := by
      cases hr : rowsOk R
      · rfl
      · have := (HOK.out.1 hr).1
        rw [← HN.out] at this
        omega
    have HNO := Lib.hid hno
    have hb2 : (24 : Int) < (n : Int) := by omega
    clear hno hbig
    go_wp2
    go_ret2
    rw [hQ.out]
    exact ⟨.inr ⟨HNO.out, rfl⟩, HB.out⟩
  · have hb2 : (n : Int) ≤ 24 := by omega
    by_cases hw : (t0.size : Int) < 1 ∨ 24 < (t0.size : Int)
    · have HI := Lib.hid (betr_no hw)
      have hno : rowsOk R = false := by
        cases hr : rowsOk R
        · rfl
        · have := HOK.out.1 hr
          have := HWZ.out
          omega
      have HNO := Lib.hid hno
      clear hno hw
      go_wp2_with (go_at_call 31; refine (rin_any _ _ _ _).mono ?_; rw [HI.out]; rintro e w' ⟨rfl, rfl⟩)
      go_ret2
      rw [hQ.out]
      exact ⟨.inr ⟨HNO.out, rfl⟩, HB.out⟩
    · have HI := Lib.hid (betr_yes (x := (t0.size : Int)) (lo := 1) (hi := 24) (by omega) (by omega))
      have ht0 : (1 : Int) ≤ (t0.size : Int) := by omega
      have ht1 : (t0.size : Int) ≤ 24 := by omega
      clear hw
      go_wp2_with (go_at_call 31; refine (rin_any _ _ _ _).mono ?_; rw [HI.out]; rintro e w' ⟨rfl, rfl⟩)
      have HBAD : Hid (∀ j, j < n → okRow W (R.getD j []) = false → rowsOk R = false) := Lib.hid fun j hj hb => by
        cases hr : rowsOk R
        · rfl
        · have hjl : j < R.length := by rw [← HN.out]; exact hj
          have := (HOK.out.1 hr).2.2.2 j hjl
          have e : R.getD j [] = R[j] := by simp [List.getD, hjl]
          rw [e, this] at hb
          exact hb
      have HALL : Hid ((∀ j, j < n → okRow W (R.getD j []) = true) → rowsOk R = true) := Lib.hid fun ha => by
        refine HOK.out.2 ⟨by rw [← HN.out]; omega, by have := HWZ.out; omega, by have := HWZ.out; omega, fun j hj => ?_⟩
        have := ha j (by rw [HN.out]; exact hj)
        have e : R.getD j [] = R[j] := by simp [List.getD, hj]
        rwa [e] at this
      clear HOK
      go_loopw [26] (fun i wr => wr = w1 ∧ ∃ j : Nat, j ≤ n ∧ i = .int .i64 (j : Int) ∧ Hid (∀ k, k < j → okRow W (R.getD k []) = true)) (fun i _ => n - (intOf i).toNat)
      case atStart => exact ⟨rfl, 0, by omega, by simp, Lib.hid fun k hk => by omega⟩
      case round =>
        obtain ⟨rfl, j, hj, rfl, hok⟩ := hrel
        by_cases hlt : j < n
        · have hlt2 : (j : Int) < (n : Int) := by omega
          have cj := HC.out j hlt
          have hts : (bt (R.getD j [])).size = (R.getD j []).length := bt_size _
          have htg : ∀ (x : Nat) (h : x < (bt (R.getD j [])).size), (R.getD j [])[x]? = some (bt (R.getD j []))[x] := fun x h => by have := ba_get (bt (R.getD j [])) x h; rwa [bt_list] at this
          have hbad := HBAD.out j hlt
          generalize hr : R.getD j [] = r at *
          generalize bt r = t at *
          have HTS := Lib.hid hts
          have HTG := Lib.hid htg
          have HBJ := Lib.hid hbad
          have HRJ := Lib.hid hr
          clear hts htg hbad hr
          by_cases hsz : t.size = t0.size
          · have hB : ((t.size : Int) != (t0.size : Int)) = false := by simp [hsz]
            have HSZ := Lib.hid hsz
            have ht24 : (t.size : Int) ≤ 24 := by omega
            clear hsz
            go_wp2
            go_loopw [7] (fun i w2 => w2 = wr ∧ ∃ x : Nat, x ≤ t.size ∧ i = .int .i64 (x : Int) ∧ Hid (∀ (k : Nat) (h : k < t.size), k < x → isSgn t[k] = true)) (fun i _ => t.size - (intOf i).toNat)
            case atStart => exact ⟨rfl, 0, by omega, by simp, Lib.hid fun k h hk => by omega⟩
            case round =>
              obtain ⟨rfl, x, hx, rfl, hsg⟩ := hrel
              by_cases hxl : x < t.size
              · have hxl2 : (x : Int) < (t.size : Int) := by omega
                have hnext : isSgn t[x] = true → Hid (∀ (k : Nat) (h : k < t.size), k < x + 1 → isSgn t[k] = true) := fun hc => Lib.hid fun k h hk => by
                  rcases Nat.lt_or_ge k x with h1 | h1
                  · exact hsg.out k h h1
                  · obtain rfl : k = x := by omega
                    exact hc
                have HNX := Lib.hid hnext
                clear hnext
                by_cases e1 : (t[x].toNat : Int) = 111
                · have hB1 : ((t[x].toNat : Int) != 111) = false := by simpa using e1
                  have HS2 := Lib.hid (HNX.out ((sg_of t[x]).2 (fun h => h.1 e1)))
                  clear e1
                  go_wp2
                  go_roundw
                  case rel => exact ⟨trivial, x + 1, by omega, by go_num, HS2.out⟩
                  case measure => simp [intOf]; omega
                · have hB1 : ((t[x].toNat : Int) != 111) = true := by simpa using e1
                  by_cases e2 : (t[x].toNat : Int) = 46
                  · have hB2 : ((t[x].toNat : Int) != 46) = false := by simpa using e2
                    have HS2 := Lib.hid (HNX.out ((sg_of t[x]).2 (fun h => h.2 e2)))
                    clear e1 e2
                    go_wp2
                    go_roundw
                    case rel => exact ⟨trivial, x + 1, by omega, by go_num, HS2.out⟩
                    case measure => simp [intOf]; omega
                  · have hB2 : ((t[x].toNat : Int) != 46) = true := by simpa using e2
                    have hns : isSgn t[x] = false := by
                      cases hs : isSgn t[x]
                      · rfl
                      · exact absurd ⟨e1, e2⟩ ((sg_of t[x]).1 hs)
                    have hno : rowsOk R = false := HBJ.out (by
                      have hg := HTG.out x hxl
                      unfold okRow
                      have hall : r.all isSgn = false := by
                        rw [List.all_eq_false]
                        have hlx : x < r.length := by have := HTS.out; omega
                        rw [List.getElem?_eq_getElem hlx] at hg
                        exact ⟨t[x], by rw [← Option.some.inj hg]; exact List.getElem_mem hlx, by rw [hns]; simp⟩
                      rw [hall, Bool.and_false])
                    have HNO := Lib.hid hno
                    clear e1 e2 hns hno
                    go_wp2_with fail
                    go_ret2
                    rw [hQ.out]
                    exact ⟨.inr ⟨HNO.out, rfl⟩, HB.out⟩
              · obtain rfl : x = t.size := by omega
                have hok2 : Hid (∀ k, k < j + 1 → okRow W (R.getD k []) = true) := Lib.hid fun k hk => by
                  rcases Nat.lt_or_ge k j with h1 | h1
                  · exact hok.out k h1
                  · obtain rfl : k = j := by omega
                    rw [HRJ.out]
                    unfold okRow
                    have hl : r.length = W := by
                      have := HTS.out
                      have := HSZ.out
                      have := HWZ.out
                      omega
                    rw [hl]
                    simp only [decide_true, Bool.true_and, List.all_eq_true]
                    intro c hc
                    obtain ⟨y, hy, rfl⟩ := List.getElem_of_mem hc
                    have hyt : y < t.size := by have := HTS.out; omega
                    have hg := HTG.out y hyt
                    rw [List.getElem?_eq_getElem hy] at hg
                    rw [Option.some.inj hg]
                    exact hsg.out y hyt hyt
                go_wp2
                go_roundw
                case rel => exact ⟨trivial, j + 1, by omega, by go_num, hok2⟩
                case measure => simp [intOf]; omega
          · have hB : ((t.size : Int) != (t0.size : Int)) = true := by
              have : ¬ (t.size : Int) = (t0.size : Int) := by omega
              simpa using this
            have hno : rowsOk R = false := HBJ.out (by
              unfold okRow
              have : ¬ r.length = W := by
                have := HTS.out
                have := HWZ.out
                omega
              simp [this])
            have HNO := Lib.hid hno
            clear hsz hno
            go_wp2_with fail
            go_ret2
            rw [hQ.out]
            exact ⟨.inr ⟨HNO.out, rfl⟩, HB.out⟩
        · obtain rfl : j = n := by omega
          have HYES := Lib.hid (HALL.out hok.out)
          go_wp2
          go_ret2
          rw [hQ.out]
          exact ⟨.inl ⟨HYES.out, _, c, rfl, HR.out⟩, HB.out⟩
theorem doRows_any (s : ByteArray) (w : World) (hs : s.size ≤ 10000000) :
    Calls Tryd.prog 40 #[.string s] w (DoQ (parts s.data.toList 47) w) := by
  by_cases h6 : 600 < s.size
  · have hno : rowsOk (parts s.data.toList 47) = false := by
      cases hp : rowsOk (parts s.data.toList 47)
      · rfl
      · have := pic_600 (l := s.data.toList) hp
        simp at this
        omega
    have HN := Lib.hid hno
    have h62 : (600 : Int) < (s.size : Int) := by omega
    clear hno h6
    go_enter Tryd.func40, Tryd.ntmps40
    go_wp2
    go_ret2
    exact ⟨.inr ⟨HN.out, rfl⟩, Below.refl _ _⟩
  · have hPb := parts_len s.data.toList 47
    exact doRows_of s _ w (by omega) hPb.1 (by have := hPb.2; simp at this; omega) fun W => l1Split_any s W (by omega)
end Go.Proofs.YtppdjjdejggjaaaDoor
