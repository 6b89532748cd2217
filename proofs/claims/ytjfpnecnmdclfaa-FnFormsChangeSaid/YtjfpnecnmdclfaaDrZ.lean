/- The drawings of chapter 8's forms and lists: whatever the bytes (a million at most), numbers and lists come out, and no old memory changes. -/
import Derived.Test.YtjfpnecnmdclfaaMf
import Derived.Test.YtjfpnecnmdclfaaTbP
import Derived.Test.YtjfpnecnmdclfaaTeB
import Derived.Test.YtjfpnecnmdclfaaMd
import Derived.Test.YtjfpnecnmdclfaaOwL
import Derived.Deep.Cut
import Derived.Deep.DeepCutAuto
namespace Go.Proofs.Ytjfpnecnmdclfaa
open Go.ChangeShapes Go.WideShapes Go.ChangeAt Go.RowKit

theorem Cur.grown8 {w w' : World} {B r : Nat} {A : Option Addr} {n c k : Nat} {row : Option Nat} (h : Cur w B r A n c k) (hg : w.grownBy w' row) (hr : ∀ g, row = some g → r < g) : Cur w' B r A n c k := by
  obtain ⟨lo, lt, c0, ⟨i, hi, c1⟩, ⟨s, s0, s1, c2⟩, f1, f2, bs⟩ := h
  have hb : ∀ g, g ≤ r → w'.heap[g]? = w.heap[g]? := fun g h2 => hg.block g (by omega) (by
    intro e
    have := hr g (by first | exact e | exact e.symm)
    omega)
  have hR := hb r (Nat.le_refl _)
  refine ⟨lo, Nat.lt_of_lt_of_le lt hg.size, (World.cell?_of_block (a := ⟨r, 0, none⟩) hR).trans c0, ⟨i, hi, (World.cell?_of_block (a := ⟨r, 1, none⟩) hR).trans c1⟩, ⟨s, s0, s1, (World.cell?_of_block (a := ⟨r, 2, none⟩) hR).trans c2⟩, (World.frozen?_of_block (a := ⟨r, 1, none⟩) hR).trans f1, (World.frozen?_of_block (a := ⟨r, 2, none⟩) hR).trans f2, fun j hj => ?_⟩
  obtain ⟨a, b, e, h1, b0, b1, hc⟩ := bs j hj
  exact ⟨a, b, e, h1, b0, b1, (World.cell?_of_block (a := a.add j) (by rw [addr_blk]; exact hb a.block (by omega))).trans hc⟩
/-- A cursor's box at R, and behind it a list being made. -/
structure Stb (w0 : World) (B R : Nat) (A : Option Addr) (n c k : Nat) (v : Value) (xs : List Int) (w : World) : Prop where
  cur : Cur w B R A n c k
  grown : w0.grownBy w (some R)
  row : w.ownsRow w0.heap.size 3 1 v xs.length (i64s xs)
  lt : R < w0.heap.size
theorem Stb.up {w0 w : World} {B R : Nat} {A : Option Addr} {n c k k' : Nat} {v : Value} {xs : List Int} (h : Stb w0 B R A n c k v xs w) (hk : k ≤ k') : Stb w0 B R A n c k' v xs w := ⟨h.cur.up hk, h.grown, h.row, h.lt⟩
theorem Stb.start {w : World} {B R : Nat} {A : Option Addr} {n c k : Nat} (h : Cur w B R A n c k) : Stb w B R A n c k (.slice none 0 0) [] w := ⟨h, World.grownBy.refl _ _, World.ownsRow_nil _ _ _ _, h.lt⟩
theorem Stb.drawn {w0 w w' : World} {B R : Nat} {A : Option Addr} {n c k k' : Nat} {v : Value} {xs : List Int} (h : Stb w0 B R A n c k v xs w) (hd : Drawn w w' B R A n c k') : Stb w0 B R A n c k' v xs w' := by
  refine ⟨hd.cur, grown_trans h.grown hd.grown, h.row.kept hd.grown ?_, h.lt⟩
  cases hv : v.ownBlock with
  | none => exact .inl rfl
  | some g =>
    have h1 := (h.row.lt g hv).1
    have h2 := h.lt
    refine .inr ?_
    intro e
    injection e with e
    omega
theorem Stb.alloc {w0 w : World} {B R : Nat} {A : Option Addr} {n c k : Nat} {v : Value} {xs : List Int} (h : Stb w0 B R A n c k v xs w) (ob : Obj) : Stb w0 B R A n c k v xs (w.alloc ob) :=
  ⟨h.cur.alloc' ob, grown_alloc h.grown ob, h.row.alloc ob, h.lt⟩
theorem Stb.below {w0 w w' : World} {B R : Nat} {A : Option Addr} {n c k : Nat} {v : Value} {xs : List Int} (h : Stb w0 B R A n c k v xs w) (hb : Below w.heap.size w w') : Stb w0 B R A n c k v xs w' :=
  ⟨h.cur.on hb, grown_below h.grown hb, row_below h.row hb (Nat.le_refl _), h.lt⟩
theorem Stb.app {w0 w w' : World} {B R : Nat} {A : Option Addr} {n c k : Nat} {v v' : Value} {xs : List Int} {x : Int} (h : Stb w0 B R A n c k v xs w) (hr : w'.ownsRow w0.heap.size 3 1 v' (xs.length + 1) (i64s xs ++ [.int .i64 x])) (hg : w.grownBy w' v.ownBlock) : Stb w0 B R A n c k v' (xs ++ [x]) w' := by
  refine ⟨h.cur.grown8 hg fun g e => by have := (h.row.lt g e).1; have := h.lt; omega, ?_, by rw [List.length_append]; simpa using hr, h.lt⟩
  have hG := h.grown
  refine ⟨hg.os.trans hG.os, hg.tape.trans hG.tape, hg.output.trans hG.output, Nat.le_trans hG.size hg.size, fun i hi hne => ?_⟩
  refine (hg.block i (Nat.lt_of_lt_of_le hi hG.size) ?_).trans (hG.block i hi hne)
  intro e
  have := (h.row.lt i (by first | exact e | exact e.symm)).1
  omega
/-- The same, seen from an earlier world. -/
theorem Stb.from {w w0 wr : World} {B R : Nat} {A : Option Addr} {n c k : Nat} {v : Value} {xs : List Int} (h : Stb w0 B R A n c k v xs wr) (hg : w.grownBy w0 (some R)) (hlt : R < w.heap.size) : Stb w B R A n c k v xs wr :=
  ⟨h.cur, grown_trans hg h.grown, ⟨h.row.1, h.row.2.imp id fun ⟨g, cap, cur, h1, h2, h3⟩ => ⟨g, cap, cur, h1, Nat.le_trans hg.size h2, h3⟩⟩, hlt⟩
theorem Stb.own {w0 w : World} {B R : Nat} {A : Option Addr} {n c k nn cc : Nat} {L : Option Addr} {xs : List Int} (h : Stb w0 B R A n c k (.slice L nn cc) xs w) : Own w w0.heap.size w.heap.size L (i64s xs) ∧ nn = xs.length := by
  obtain ⟨A2, c2, e⟩ := row_form h.row
  injection e with e1 e2 e3
  subst e2
  exact ⟨own_of_row h.row, rfl⟩
theorem own_far8 {w w' : World} {lo hi r : Nat} {L : Option Addr} {cs : List Value} (h : Own w lo hi L cs) (hg : w.grownBy w' (some r)) (hr : r < lo) (hh : hi ≤ w.heap.size) : Own w' lo hi L cs :=
  h.far hg hh fun p hp h0 => by
    obtain ⟨g, o, e, h1, _⟩ := h h0
    rw [hp] at e
    injection e with e
    subst e
    intro e
    injection e with e
    simp at e
    omega
def lenS8 : Value → Nat
  | .slice _ n _ => n
  | _ => 0
/-- What a list's drawing hands back. -/
structure Lst8 (w w' : World) (B r : Nat) (A : Option Addr) (n c k : Nat) (L : Option Addr) (xs : List Int) : Prop where
  drawn : Drawn w w' B r A n c k
  own : Own w' w.heap.size w'.heap.size L (i64s xs)

theorem bd_nil : Bd 1000 [] := fun j => by simp
theorem bd_snoc {xs : List Int} {x : Int} (h : Bd 1000 xs) (h1 : -1000 ≤ x) (h2 : x ≤ 1000) : Bd 1000 (xs ++ [x]) := fun j => by
  have := h j
  simp only [List.getD_eq_getElem?_getD] at this ⊢
  rw [List.getElem?_append]
  split
  · exact this
  · rcases Nat.eq_zero_or_pos (j - xs.length) with e | e
    · rw [e]; simp; omega
    · rw [List.getElem?_eq_none (by simp; omega)]; simp

theorem cur_set8 {w : World} {B r R : Nat} {A : Option Addr} {n c k : Nat} (h : Cur w B r A n c k) (_hne : R ≠ r) (hlo : r < R) (o : Nat) (v : Value) : Cur (w.setCell ⟨R, o, none⟩ v) B r A n c k := by
  refine h.grown8 (row := some R) ⟨rfl, rfl, rfl, by simp [World.setCell], fun i hi hr => Below.heap_setCell _ _ _ _ (fun e => hr (by rw [e]))⟩ fun g e => by injection e with e; omega
theorem grown_set8' {w w' : World} {r R : Nat} (h : w.grownBy w' (some r)) (hR : w.heap.size ≤ R) (o : Nat) (v : Value) : w.grownBy (w'.setCell ⟨R, o, none⟩ v) (some r) :=
  ⟨h.os, h.tape, h.output, by simpa [World.setCell] using h.size, fun i hi hr => (Below.heap_setCell _ _ _ _ (fun e => by first | (have e2 : R = i := e; omega) | (have e2 : i = R := e; omega))).trans (h.block i hi hr)⟩

set_option maxHeartbeats 6400000 in
set_option maxRecDepth 4000 in
theorem drawform_any (B r : Nat) (A : Option Addr) (n c k : Nat) (w : World) (h : Cur w B r A n c k) (hk : k ≤ 700000) (hn : n ≤ 1000000000000) :
    Calls Try.prog 31 #[.pointer (some ⟨r, 0, none⟩)] w fun e w' => ∃ (L : Option Addr) (n2 c2 : Nat) (Z : List Int), e = .returned (.slice L n2 c2) ∧ Z.length = n2 ∧ n2 ≤ 20 ∧ n2 ≤ c2 ∧ Lst8 w w' B r A n c (k + 400) L Z := by
  obtain ⟨i0, hi0, hz0, hz1, hz2⟩ := info_parts infoInt
  have ST := Lib.hid (Stb.start h)
  clear h
  go_enter Try.func31, Try.ntmps31
  go_wp2_with fail
  refine (pick_any _ _ _ _ _ _ _ _ ST.out.cur (by omega) hn (by omega) (by omega)).mono ?_
  rintro e w1 ⟨y, rfl, y0, y1, hd⟩
  have ST1 := Lib.hid (ST.out.drawn hd)
  clear hd
  clear ST
  have ST := ST1
  clear ST1
  obtain ⟨y, rfl⟩ := Int.eq_ofNat_of_zero_le y0
  obtain ⟨L0, hL0⟩ : ∃ L0, y = L0 := ⟨_, rfl⟩
  have HL0 := Lib.hid hL0
  clear hL0
  go_wp2_with fail
  go_loopw [3, 4] (fun v i wr => ∃ (j : Nat) (xs : List Int), j ≤ 5 ∧ i = .int .i64 j ∧ xs.length + j ≤ 5 ∧ (xs.length + j = L0) ∧ Bd 1000 xs ∧ Hid (Stb w B r A n c (k + 20 - 2 * j) v xs wr)) (fun _ i _ => (intOf i).toNat)
  case atStart => exact ⟨y, [], by omega, rfl, by simp; omega, by simpa using HL0.out, bd_nil, Lib.hid (ST.out.up (by omega))⟩
  case round =>
    obtain ⟨j, xs, hj, rfl, hx, hx0, hbd, ST⟩ := hrel
    by_cases hlt : 0 < j
    · have hji : (0 : Int) < (j : Int) := by omega
      go_wp2_with fail
      refine (pick_any _ _ _ _ _ _ _ _ ST.out.cur (by omega) hn (by omega) (by omega)).mono ?_
      rintro e w4 ⟨z, rfl, z0, z1, hd⟩
      have ST9 := Lib.hid (ST.out.drawn hd)
      clear hd ST
      have ST := ST9
      clear ST9
      have hw : IntKind.i64.wrap (z - 7) = z - 7 := IntWalk.i64_in _ (by omega)
      go_wp2_with (at_builtin; refine wpList_append_own _ rfl _ _ 24 rfl w.heap.size 3 i0 (.int .i64 0) 1 8 Try.underlying24 hi0 hz0 hz1 hz2 rfl (by decide) _ _ _ rfl (ST.out.row.alloc _) ⟨w4.heap.size, 0, none⟩ 1 1 [.int .i64 (z - 7)] rfl rfl ?c1 ?c2 ?c3 ?c4 ?c5 ?_)
      case c1 =>
        intro j u hj
        match j, hj with
        | 0, hj => simp at hj; subst hj; simp [Addr.add]
      case c2 => intro u hu; simp at hu; subst hu; rfl
      case c3 => unfold maxLen; omega
      case c4 => omega
      case c5 => have := ST.out.grown.size; simp; omega
      · intro v' w5 hown' hgrow _
        have ST2 := Lib.hid ((ST.out.alloc _).app hown' hgrow)
        clear hown' hgrow ST
        have hw2 : IntKind.i64.wrap ((j : Int) - 1) = (j : Int) - 1 := IntWalk.i64_in _ (by omega)
        go_wp2_with fail
        go_roundw
        case rel => exact ⟨j - 1, xs ++ [z - 7], by omega, by rw [show ((j - 1 : Nat) : Int) = (j : Int) - 1 by omega], by rw [List.length_append]; simp; omega, by rw [List.length_append]; simp; omega, bd_snoc hbd (by omega) (by omega), Lib.hid (ST2.out.up (by omega))⟩
        case measure => simp [intOf] <;> omega
    · have hji : ¬ (0 : Int) < (j : Int) := by omega
      obtain rfl : j = 0 := by omega
      clear hlt hj
      have hx5 : xs.length ≤ 5 := by omega
      clear hx hx0 hbd
      go_wp2_with fail
      refine (one_any _ _ _ _ _ _ _ _ ST.out.cur (by omega) hn (by omega) (by omega)).mono ?_
      rintro e w6 ⟨b, rfl, hd⟩
      have ST1 := Lib.hid (ST.out.drawn hd)
      clear hd ST
      go_upto_if 19 with fail
      go_cut [3] (fun v wx => ∃ ys : List Int, ys.length ≤ 5 ∧ Hid (Stb w B r A n c (k + 40) v ys wx))
      case first =>
        cases b
        · obtain ⟨A2, c2, rfl⟩ := row_form ST1.out.row
          have hcap : xs.length ≤ c2 := rowcap8 ST1.out.row
          have hown := (ST1.out).own.1
          go_wp2_with fail
          refine (dfTrim_any A2 _ c2 _ _ xs _ rfl (by omega) hcap hown (Nat.le_refl _)).mono ?_
          rintro e w7 ⟨⟨L3, d3, rfl, hrow⟩, hb⟩
          have hsz := ST1.out.grown.size
          have ST2 : Stb w B r A n c (k + 40) (.slice L3 (trm8 xs).length d3) (trm8 xs) w7 := ⟨(ST1.out.cur.on hb).up (by omega), grown_below ST1.out.grown hb, ⟨hrow.1, hrow.2.imp id fun ⟨g, cap, cur, h1, h2, h3⟩ => ⟨g, cap, cur, h1, Nat.le_trans hsz h2, h3⟩⟩, ST1.out.lt⟩
          have ST3 := Lib.hid ST2
          have htl : (trm8 xs).length ≤ 5 := by rw [trm8_len]; exact Nat.le_trans (tln8_le _ _) hx5
          clear ST1 ST2 hown hrow hb
          go_wp2_with fail
          go_meet
          exact ⟨trm8 xs, htl, ST3⟩
        · go_wp2_with fail
          go_meet
          exact ⟨xs, hx5, Lib.hid (ST1.out.up (by omega))⟩
      case rest =>
        obtain ⟨ys, hys, ST⟩ := hcut
        go_wp2_with fail
        refine (pick_any _ _ _ _ _ _ _ _ ST.out.cur (by omega) hn (by omega) (by omega)).mono ?_
        rintro e w8 ⟨p, rfl, p0, p1, hd⟩
        have ST1 := Lib.hid (ST.out.drawn hd)
        clear hd
        clear ST
        have ST := ST1
        clear ST1
        by_cases h0 : p = 0
        · subst h0
          go_wp2_with fail
          refine (among_any _ _ _ _ _ _ _ 5 _ [-1000001, -1000000, 1000000, 1000001, 4611686018427387904] _ _ _ (ST.out.cur.alloc' _) (by omega) hn rfl (by omega) (by omega) (own_new _ [-1000001, -1000000, 1000000, 1000001, 4611686018427387904] _) (Or.inl ST.out.cur.lt) (Nat.le_refl _)).mono ?_
          rintro e w9 ⟨z, rfl, zm, hd⟩
          have ST9 := Lib.hid ((ST.out.alloc _).drawn hd)
          clear hd ST zm
          have ST := ST9
          clear ST9
          go_wp2_with (at_builtin; refine wpList_append_own _ rfl _ _ 24 rfl w.heap.size 3 i0 (.int .i64 0) 1 8 Try.underlying24 hi0 hz0 hz1 hz2 rfl (by decide) _ _ _ rfl (ST.out.row.alloc _) ⟨w9.heap.size, 0, none⟩ 1 1 [.int .i64 (z)] rfl rfl ?c1 ?c2 ?c3 ?c4 ?c5 ?_)
          case c1 =>
            intro j u hj
            match j, hj with
            | 0, hj => simp at hj; subst hj; simp [Addr.add]
          case c2 => intro u hu; simp at hu; subst hu; rfl
          case c3 => unfold maxLen; omega
          case c4 => omega
          case c5 => have := ST.out.grown.size; simp; omega
          · intro v' w5 hown' hgrow _
            have ST2 := Lib.hid ((ST.out.alloc _).app hown' hgrow)
            clear hown' hgrow ST
            obtain ⟨L2, d2, rfl⟩ := row_form ST2.out.row
            go_wp2_with fail
            go_ret
            exact ⟨L2, _, d2, ys ++ [z], rfl, rfl, by rw [List.length_append]; simp; omega, rowcap8 ST2.out.row, ⟨ST2.out.cur.up (by omega), ST2.out.grown⟩, own_of_row ST2.out.row⟩
        · by_cases h1 : p = 1
          · subst h1
            go_wp2_with fail
            go_loopw [3] (fun v wr => ∃ zs : List Int, zs.length ≤ 20 ∧ Hid (Stb w B r A n c (k + 50 + 4 * zs.length) v zs wr)) (fun v _ => 22 - lenS8 v)
            case atStart => exact ⟨ys, by omega, Lib.hid (ST.out.up (by omega))⟩
            case round =>
              obtain ⟨zs, hz, ST⟩ := hrel
              obtain ⟨A2, c2, rfl⟩ := row_form ST.out.row
              go_wp2_with fail
              refine (pick_any _ _ _ _ _ _ _ _ ST.out.cur (by omega) hn (by omega) (by omega)).mono ?_
              rintro e w6 ⟨q, rfl, q0, q1, hd⟩
              have ST9 := Lib.hid (ST.out.drawn hd)
              clear hd ST
              have ST := ST9
              clear ST9
              have hw : IntKind.i64.wrap (12 + q) = 12 + q := IntWalk.i64_in _ (by omega)
              by_cases hl : (zs.length : Int) < 12 + q
              · go_wp2_with fail
                refine (pick_any _ _ _ _ _ _ _ _ ST.out.cur (by omega) hn (by omega) (by omega)).mono ?_
                rintro e w7 ⟨z, rfl, z0, z1, hd⟩
                have ST9 := Lib.hid (ST.out.drawn hd)
                clear hd ST
                have ST := ST9
                clear ST9
                have hwz : IntKind.i64.wrap (1 + z) = 1 + z := IntWalk.i64_in _ (by omega)
                have hl13 : zs.length ≤ 13 := by omega
                go_wp2_with (at_builtin; refine wpList_append_own _ rfl _ _ 24 rfl w.heap.size 3 i0 (.int .i64 0) 1 8 Try.underlying24 hi0 hz0 hz1 hz2 rfl (by decide) _ _ _ rfl (ST.out.row.alloc _) ⟨w7.heap.size, 0, none⟩ 1 1 [.int .i64 (1 + z)] rfl rfl ?c1 ?c2 ?c3 ?c4 ?c5 ?_)
                case c1 =>
                  intro j u hj
                  match j, hj with
                  | 0, hj => simp at hj; subst hj; simp [Addr.add]
                case c2 => intro u hu; simp at hu; subst hu; rfl
                case c3 => unfold maxLen; omega
                case c4 => omega
                case c5 => have := ST.out.grown.size; simp; omega
                · intro v' w5 hown' hgrow _
                  have ST2 := Lib.hid ((ST.out.alloc _).app hown' hgrow)
                  clear hown' hgrow ST
                  obtain ⟨A3, c3, rfl⟩ := row_form ST2.out.row
                  go_wp2_with fail
                  go_roundw
                  case rel => exact ⟨zs ++ [1 + z], by rw [List.length_append]; simp; omega, Lib.hid (ST2.out.up (by rw [List.length_append]; simp; omega))⟩
                  case measure => simp [lenS8]; omega
              · go_wp2_with fail
                go_ret
                exact ⟨A2, _, c2, zs, rfl, rfl, by omega, rowcap8 ST.out.row, ⟨ST.out.cur.up (by omega), ST.out.grown⟩, own_of_row ST.out.row⟩
          · have e0 : (p == 0) = false := by simpa using h0
            have e1 : (p == 1) = false := by simpa using h1
            clear h0 h1
            obtain ⟨L2, d2, rfl⟩ := row_form ST.out.row
            go_wp2_with fail
            go_ret
            exact ⟨L2, _, d2, ys, rfl, rfl, by omega, rowcap8 ST.out.row, ⟨ST.out.cur.up (by omega), ST.out.grown⟩, own_of_row ST.out.row⟩

set_option maxHeartbeats 6400000 in
set_option maxRecDepth 4000 in
theorem drawlisted_any (B r : Nat) (A : Option Addr) (n c k : Nat) (w : World) (h : Cur w B r A n c k) (hk : k ≤ 700000) (hn : n ≤ 1000000000000) :
    Calls Try.prog 55 #[.pointer (some ⟨r, 0, none⟩)] w fun e w' => ∃ (L : Option Addr) (n2 c2 : Nat) (Z : List Int), e = .returned (.slice L n2 c2) ∧ Z.length = n2 ∧ n2 ≤ 20 ∧ n2 ≤ c2 ∧ Lst8 w w' B r A n c (k + 400) L Z := by
  obtain ⟨i0, hi0, hz0, hz1, hz2⟩ := info_parts infoInt
  have ST := Lib.hid (Stb.start h)
  clear h
  go_enter Try.func55, Try.ntmps55
  go_wp2_with fail
  refine (one_any _ _ _ _ _ _ _ _ ST.out.cur (by omega) hn (by omega) (by omega)).mono ?_
  rintro e w1 ⟨b, rfl, hd⟩
  have ST1 := Lib.hid (ST.out.drawn hd)
  clear hd ST
  have ST := ST1
  clear ST1
  go_upto_if 11 with fail
  go_cut [3] (fun v wx => ∃ ys : List Int, 1 ≤ ys.length ∧ ys.length ≤ 9 ∧ Hid (Stb w B r A n c (k + 100) v ys wx))
  case first =>
    cases b
    · go_wp2_with fail
      refine (pick_any _ _ _ _ _ _ _ _ ST.out.cur (by omega) hn (by omega) (by omega)).mono ?_
      rintro e w2 ⟨y, rfl, y0, y1, hd⟩
      have ST1 := Lib.hid (ST.out.drawn hd)
      clear hd
      clear ST
      have ST := ST1
      clear ST1
      have hw0 : IntKind.i64.wrap (1 + y) = 1 + y := IntWalk.i64_in _ (by omega)
      obtain ⟨L0, hL0⟩ : ∃ L0, (1 + y).toNat = L0 := ⟨_, rfl⟩
      have hL1 : 1 ≤ L0 := by omega
      have HL0 := Lib.hid hL0
      clear hL0
      go_wp2_with fail
      go_loopw [3, 9] (fun v i wr => ∃ (j : Nat) (xs : List Int), j ≤ 7 ∧ i = .int .i64 j ∧ xs.length + j ≤ 7 ∧ (xs.length + j = L0) ∧ Bd 1000 xs ∧ Hid (Stb w B r A n c (k + 40 - 2 * j) v xs wr)) (fun _ i _ => (intOf i).toNat)
      case atStart => exact ⟨(1 + y).toNat, [], by omega, by rw [Int.toNat_of_nonneg (by omega)], by simp; omega, by simpa using HL0.out, bd_nil, Lib.hid (ST.out.up (by omega))⟩
      case round =>
        obtain ⟨j, xs, hj, rfl, hx, hx0, hbd, ST⟩ := hrel
        by_cases hlt : 0 < j
        · have hji : (0 : Int) < (j : Int) := by omega
          go_wp2_with fail
          refine (pick_any _ _ _ _ _ _ _ _ ST.out.cur (by omega) hn (by omega) (by omega)).mono ?_
          rintro e w4 ⟨z, rfl, z0, z1, hd⟩
          have ST9 := Lib.hid (ST.out.drawn hd)
          clear hd ST
          have ST := ST9
          clear ST9
          have hw : IntKind.i64.wrap (z - 20) = z - 20 := IntWalk.i64_in _ (by omega)
          go_wp2_with (at_builtin; refine wpList_append_own _ rfl _ _ 24 rfl w.heap.size 3 i0 (.int .i64 0) 1 8 Try.underlying24 hi0 hz0 hz1 hz2 rfl (by decide) _ _ _ rfl (ST.out.row.alloc _) ⟨w4.heap.size, 0, none⟩ 1 1 [.int .i64 (z - 20)] rfl rfl ?c1 ?c2 ?c3 ?c4 ?c5 ?_)
          case c1 =>
            intro j u hj
            match j, hj with
            | 0, hj => simp at hj; subst hj; simp [Addr.add]
          case c2 => intro u hu; simp at hu; subst hu; rfl
          case c3 => unfold maxLen; omega
          case c4 => omega
          case c5 => have := ST.out.grown.size; simp; omega
          · intro v' w5 hown' hgrow _
            have ST2 := Lib.hid ((ST.out.alloc _).app hown' hgrow)
            clear hown' hgrow ST
            have hw2 : IntKind.i64.wrap ((j : Int) - 1) = (j : Int) - 1 := IntWalk.i64_in _ (by omega)
            go_wp2_with fail
            go_roundw
            case rel => exact ⟨j - 1, xs ++ [z - 20], by omega, by rw [show ((j - 1 : Nat) : Int) = (j : Int) - 1 by omega], by rw [List.length_append]; simp; omega, by rw [List.length_append]; simp; omega, bd_snoc hbd (by omega) (by omega), Lib.hid (ST2.out.up (by omega))⟩
            case measure => simp [intOf] <;> omega
        · have hji : ¬ (0 : Int) < (j : Int) := by omega
          obtain rfl : j = 0 := by omega
          clear hlt hj
          go_wp2_with fail
          go_meet
          exact ⟨xs, by omega, by omega, Lib.hid (ST.out.up (by omega))⟩
    · go_wp2_with fail
      refine (pick_any _ _ _ _ _ _ _ _ ST.out.cur (by omega) hn (by omega) (by omega)).mono ?_
      rintro e w2 ⟨y, rfl, y0, y1, hd⟩
      have ST1 := Lib.hid (ST.out.drawn hd)
      clear hd
      clear ST
      have ST := ST1
      clear ST1
      have hw0 : IntKind.i64.wrap (y + 1) = y + 1 := IntWalk.i64_in _ (by omega)
      obtain ⟨L0, hL0⟩ : ∃ L0, (y + 1).toNat = L0 := ⟨_, rfl⟩
      have hL1 : 1 ≤ L0 := by omega
      have HL0 := Lib.hid hL0
      clear hL0
      go_wp2_with fail
      go_loopw [4, 5] (fun v i wr => ∃ (j : Nat) (xs : List Int), j ≤ 4 ∧ i = .int .i64 j ∧ xs.length + j ≤ 4 ∧ (xs.length + j = L0) ∧ Bd 1000 xs ∧ Hid (Stb w B r A n c (k + 40 - 2 * j) v xs wr)) (fun _ i _ => (intOf i).toNat)
      case atStart => exact ⟨(y + 1).toNat, [], by omega, by rw [Int.toNat_of_nonneg (by omega)], by simp; omega, by simpa using HL0.out, bd_nil, Lib.hid (ST.out.up (by omega))⟩
      case round =>
        obtain ⟨j, xs, hj, rfl, hx, hx0, hbd, ST⟩ := hrel
        by_cases hlt : 0 < j
        · have hji : (0 : Int) < (j : Int) := by omega
          go_wp2_with fail
          refine (pick_any _ _ _ _ _ _ _ _ ST.out.cur (by omega) hn (by omega) (by omega)).mono ?_
          rintro e w4 ⟨z, rfl, z0, z1, hd⟩
          have ST9 := Lib.hid (ST.out.drawn hd)
          clear hd ST
          have ST := ST9
          clear ST9
          have hw : IntKind.i64.wrap (z - 6) = z - 6 := IntWalk.i64_in _ (by omega)
          go_wp2_with (at_builtin; refine wpList_append_own _ rfl _ _ 24 rfl w.heap.size 3 i0 (.int .i64 0) 1 8 Try.underlying24 hi0 hz0 hz1 hz2 rfl (by decide) _ _ _ rfl (ST.out.row.alloc _) ⟨w4.heap.size, 0, none⟩ 1 1 [.int .i64 (z - 6)] rfl rfl ?c1 ?c2 ?c3 ?c4 ?c5 ?_)
          case c1 =>
            intro j u hj
            match j, hj with
            | 0, hj => simp at hj; subst hj; simp [Addr.add]
          case c2 => intro u hu; simp at hu; subst hu; rfl
          case c3 => unfold maxLen; omega
          case c4 => omega
          case c5 => have := ST.out.grown.size; simp; omega
          · intro v' w5 hown' hgrow _
            have ST2 := Lib.hid ((ST.out.alloc _).app hown' hgrow)
            clear hown' hgrow ST
            have hw2 : IntKind.i64.wrap ((j : Int) - 1) = (j : Int) - 1 := IntWalk.i64_in _ (by omega)
            go_wp2_with fail
            go_roundw
            case rel => exact ⟨j - 1, xs ++ [z - 6], by omega, by rw [show ((j - 1 : Nat) : Int) = (j : Int) - 1 by omega], by rw [List.length_append]; simp; omega, by rw [List.length_append]; simp; omega, bd_snoc hbd (by omega) (by omega), Lib.hid (ST2.out.up (by omega))⟩
            case measure => simp [intOf] <;> omega
        · have hji : ¬ (0 : Int) < (j : Int) := by omega
          obtain rfl : j = 0 := by omega
          clear hlt hj
          have hx4 : xs.length ≤ 4 := by omega
          have hbd6 := hbd.mono (show (1000 : Int) ≤ 1000000 by omega)
          clear hx hx0 hbd
          obtain ⟨F, dF, rfl⟩ := row_form ST.out.row
          obtain ⟨wz, hwz⟩ : ∃ wz : World, wz = wr := ⟨_, rfl⟩
          have hF := Lib.hid (show Own wz w.heap.size wz.heap.size F (i64s xs) by rw [hwz]; exact (ST.out).own.1)
          have hG := Lib.hid (show w.grownBy wz (some r) by rw [hwz]; exact ST.out.grown)
          have hWR := ST.out.lt
          have hrw : r < w.heap.size := ST.out.lt
          have STo := Lib.hid (show Stb wz B r A n c (k + 40) (.slice none 0 0) [] wr by rw [hwz]; exact (Stb.start ST.out.cur).up (by omega))
          clear hwz ST
          have ST := STo
          clear STo
          generalize hM : xs.length = M at *
          go_wp2_with fail
          go_loopw [3, 6] (fun v i wr => ∃ (j : Nat) (ys : List Int), j ≤ 9 ∧ i = .int .i64 j ∧ ys.length = j ∧ Hid (Stb wz B r A n c (k + 40 + 2 * j) v ys wr)) (fun _ i _ => 10 - (intOf i).toNat)
          case atStart => exact ⟨0, [], by omega, rfl, rfl, Lib.hid (ST.out.up (by omega))⟩
          case round =>
            obtain ⟨j, ys, hj, rfl, hyl, ST⟩ := hrel
            have hy10 : ys.length ≤ 9 := by omega
            have HYL := Lib.hid hyl
            clear hyl
            go_wp2_with fail
            refine (pick_any _ _ _ _ _ _ _ _ ST.out.cur (by omega) hn (by omega) (by omega)).mono ?_
            rintro e w6 ⟨q, rfl, q0, q1, hd⟩
            have ST9 := Lib.hid (ST.out.drawn hd)
            clear hd ST
            have ST := ST9
            clear ST9
            have hw : IntKind.i64.wrap (3 + q) = 3 + q := IntWalk.i64_in _ (by omega)
            by_cases hl : (j : Int) < 3 + q
            · have hfo := own_far8 hF.out ST.out.grown hrw (Nat.le_refl _)
              go_wp2_with fail
              refine (dfValue_any F M dF _ _ j xs _ hM (by omega) (by omega) hbd6 hfo ST.out.grown.size).mono ?_
              rintro e w7 ⟨he, hb⟩
              have ST9 := Lib.hid (ST.out.below hb)
              clear hb ST hfo
              have ST := ST9
              clear ST9
              obtain ⟨u, t, rfl⟩ : ∃ (u : Int) (t : Bool), e = .returned (.tuple #[.int .i64 u, .bool t]) := by
                rw [he, vans8]
                split
                · exact ⟨_, _, rfl⟩
                · exact ⟨_, _, rfl⟩
              clear he
              go_wp2_with (at_builtin; refine wpList_append_own _ rfl _ _ 24 rfl wz.heap.size 3 i0 (.int .i64 0) 1 8 Try.underlying24 hi0 hz0 hz1 hz2 rfl (by decide) _ _ _ rfl (ST.out.row.alloc _) ⟨w7.heap.size, 0, none⟩ 1 1 [.int .i64 (u)] rfl rfl ?c1 ?c2 ?c3 ?c4 ?c5 ?_)
              case c1 =>
                intro j u hj
                match j, hj with
                | 0, hj => simp at hj; subst hj; simp [Addr.add]
              case c2 => intro u hu; simp at hu; subst hu; rfl
              case c3 => unfold maxLen; omega
              case c4 => omega
              case c5 => have := ST.out.grown.size; simp; omega
              · intro v' w5 hown' hgrow _
                have ST2 := Lib.hid ((ST.out.alloc _).app hown' hgrow)
                clear hown' hgrow ST
                have hw2 : IntKind.i64.wrap ((j : Int) + 1) = (j : Int) + 1 := IntWalk.i64_in _ (by omega)
                go_wp2_with fail
                go_roundw
                case rel => exact ⟨j + 1, ys ++ [u], by omega, by go_num, by rw [List.length_append]; simp; exact HYL.out, Lib.hid (ST2.out.up (by omega))⟩
                case measure => simp [intOf] <;> omega
            · go_wp2_with fail
              go_meet
              exact ⟨ys, by have := HYL.out; omega, by have := HYL.out; omega, Lib.hid ((ST.out.from hG.out hWR).up (by omega))⟩
  case rest =>
    obtain ⟨ys, hy1, hy9, ST⟩ := hcut
    go_wp2_with fail
    refine (pick_any _ _ _ _ _ _ _ _ ST.out.cur (by omega) hn (by omega) (by omega)).mono ?_
    rintro e w8 ⟨p, rfl, p0, p1, hd⟩
    have ST1 := Lib.hid (ST.out.drawn hd)
    clear hd
    clear ST
    have ST := ST1
    clear ST1
    by_cases h0 : p = 0
    · subst h0
      obtain ⟨L2, d2, rfl⟩ := row_form ST.out.row
      have hcap := rowcap8 ST.out.row
      generalize hN : ys.length = N at *
      go_wp2_with fail
      refine (pick_any _ _ _ _ _ _ _ _ ST.out.cur (by omega) hn (by omega) (by omega)).mono ?_
      rintro e w9 ⟨q, rfl, q0, q1, hd⟩
      have ST9 := Lib.hid (ST.out.drawn hd)
      clear hd ST
      have ST := ST9
      clear ST9
      go_wp2_with fail
      refine (among_any _ _ _ _ _ _ _ 5 _ [-1000001, -1000000, 1000000, 1000001, 4611686018427387904] _ _ _ (ST.out.cur.alloc' _) (by omega) hn rfl (by omega) (by omega) (own_new _ [-1000001, -1000000, 1000000, 1000001, 4611686018427387904] _) (Or.inl ST.out.cur.lt) (Nat.le_refl _)).mono ?_
      rintro e w10 ⟨z, rfl, zm, hd⟩
      have ST9 := Lib.hid ((ST.out.alloc _).drawn hd)
      clear hd ST zm
      have hO := ST9.out.own.1
      have hrl := ST9.out.lt
      have hGr := ST9.out.grown
      have hCu := ST9.out.cur
      obtain ⟨j, rfl⟩ := Int.eq_ofNat_of_zero_le q0
      have hj : j < ys.length := by omega
      obtain ⟨g, o, rfl, hg1, hg2, hc, hf⟩ := hO.at_ (k := j) (by simpa using hj)
      have hset := hO.set_ j (by simpa using hj) (.int .i64 z)
      rw [← List.map_set] at hset
      have HSET := Lib.hid hset
      have HCU := Lib.hid (cur_set8 hCu (show g ≠ r by omega) (show r < g by omega) (o + j) (.int .i64 z))
      have HGR := Lib.hid (grown_set8' hGr hg1 (o + j) (.int .i64 z))
      clear hset hO ST9 hGr hCu
      generalize (i64s ys)[j]'(by simpa using hj) = x at hc
      go_wp2
      go_ret
      exact ⟨_, _, _, ys.set j z, rfl, by rw [List.length_set, hN], by omega, hcap, ⟨HCU.out.up (by omega), HGR.out⟩, HSET.out.wide (Nat.le_refl _) (by simp [World.setCell])⟩
    · by_cases h1 : p = 1
      · subst h1
        go_wp2_with fail
        go_ret
        exact ⟨none, 0, 0, [], rfl, rfl, by omega, Nat.le_refl _, ⟨ST.out.cur.up (by omega), ST.out.grown⟩, Own.none_⟩
      · by_cases h2 : p = 2
        · subst h2
          go_wp2_with fail
          go_loopw [3] (fun v wr => ∃ zs : List Int, zs.length ≤ 20 ∧ Hid (Stb w B r A n c (k + 120 + 4 * zs.length) v zs wr)) (fun v _ => 22 - lenS8 v)
          case atStart => exact ⟨ys, by omega, Lib.hid (ST.out.up (by omega))⟩
          case round =>
            obtain ⟨zs, hz, ST⟩ := hrel
            obtain ⟨A2, c2, rfl⟩ := row_form ST.out.row
            go_wp2_with fail
            refine (pick_any _ _ _ _ _ _ _ _ ST.out.cur (by omega) hn (by omega) (by omega)).mono ?_
            rintro e w6 ⟨q, rfl, q0, q1, hd⟩
            have ST9 := Lib.hid (ST.out.drawn hd)
            clear hd ST
            have ST := ST9
            clear ST9
            have hw : IntKind.i64.wrap (12 + q) = 12 + q := IntWalk.i64_in _ (by omega)
            by_cases hl : (zs.length : Int) < 12 + q
            · go_wp2_with fail
              refine (pick_any _ _ _ _ _ _ _ _ ST.out.cur (by omega) hn (by omega) (by omega)).mono ?_
              rintro e w7 ⟨z, rfl, z0, z1, hd⟩
              have ST9 := Lib.hid (ST.out.drawn hd)
              clear hd ST
              have ST := ST9
              clear ST9
    
              have hl13 : zs.length ≤ 13 := by omega
              go_wp2_with (at_builtin; refine wpList_append_own _ rfl _ _ 24 rfl w.heap.size 3 i0 (.int .i64 0) 1 8 Try.underlying24 hi0 hz0 hz1 hz2 rfl (by decide) _ _ _ rfl (ST.out.row.alloc _) ⟨w7.heap.size, 0, none⟩ 1 1 [.int .i64 (z)] rfl rfl ?c1 ?c2 ?c3 ?c4 ?c5 ?_)
              case c1 =>
                intro j u hj
                match j, hj with
                | 0, hj => simp at hj; subst hj; simp [Addr.add]
              case c2 => intro u hu; simp at hu; subst hu; rfl
              case c3 => unfold maxLen; omega
              case c4 => omega
              case c5 => have := ST.out.grown.size; simp; omega
              · intro v' w5 hown' hgrow _
                have ST2 := Lib.hid ((ST.out.alloc _).app hown' hgrow)
                clear hown' hgrow ST
                obtain ⟨A3, c3, rfl⟩ := row_form ST2.out.row
                go_wp2_with fail
                go_roundw
                case rel => exact ⟨zs ++ [z], by rw [List.length_append]; simp; omega, Lib.hid (ST2.out.up (by rw [List.length_append]; simp; omega))⟩
                case measure => simp [lenS8]; omega
            · go_wp2_with fail
              go_ret
              exact ⟨A2, _, c2, zs, rfl, rfl, by omega, rowcap8 ST.out.row, ⟨ST.out.cur.up (by omega), ST.out.grown⟩, own_of_row ST.out.row⟩
        · have e0 : (p == 0) = false := by simpa using h0
          have e1 : (p == 1) = false := by simpa using h1
          have e2 : (p == 2) = false := by simpa using h2
          clear h0 h1 h2
          obtain ⟨L2, d2, rfl⟩ := row_form ST.out.row
          go_wp2_with fail
          go_ret
          exact ⟨L2, _, d2, ys, rfl, rfl, by omega, rowcap8 ST.out.row, ⟨ST.out.cur.up (by omega), ST.out.grown⟩, own_of_row ST.out.row⟩

end Go.Proofs.Ytjfpnecnmdclfaa
