/- The texts XDuK XDuL XDuQ XDtA XDtB XDtC XDtD joined. -/
import Derived.Test.YtbcgidgjdedkiaaDoorMtC
import Derived.Shelf.Strings.BuilderK
import Derived.Shelf.Strings.Split
import Derived.Lib.Hide
import Derived.Deep.DeepCutAuto
/- Chapter 7: texts built: strings.Builder's writers, as this translation has them. -/
namespace Go.Proofs.YtbcgidgjdedkiaaDoor
open Go.ChangeShapes Go.WideShapes Go.ChangeAt Go.RowKit Go.Maps

/-- Block b is a builder that holds these bytes. -/
abbrev Bdr (w : World) (B b : Nat) (bs : List UInt8) : Prop := Lib.IsBuilderF 92 5 B b (Lib.byteCells bs) w
abbrev Oth (w w' : World) (b : Nat) : Prop := Lib.OthersKept 5 (some b) w w'
theorem infoB7 : (Tryd.prog.info? 92).map (fun i => i.size) = some 2 := by kernel_rfl
theorem infoU7 : (Tryd.prog.info? 5).map (fun i => (i.zero, i.size, i.bytes)) = some (some (.int .u8 0), 1, 1) := by kernel_rfl
theorem lies7 : liesAt Tryd.prog Tryd.prog.depth 92 (2 / Tryd.prog.cellsOf 92) 0 92 1 = true := by kernel_rfl
set_option maxHeartbeats 1000000 in
set_option maxRecDepth 100000 in
theorem copyCheck_any (B b : Nat) (bs : List Value) (w : World) (h : Lib.IsBuilderF 92 5 B b bs w) :
    Calls Tryd.prog 96 #[.pointer (some ⟨b, 0, none⟩)] w fun e w' => e = .returned (.tuple #[]) ∧ Lib.BuilderAtF 92 5 B b (.pointer (some ⟨b, 0, none⟩)) bs w' ∧ Below B w w' ∧ Oth w w' b := by
  obtain ⟨j, hj, hjs⟩ := Option.map_eq_some_iff.1 infoB7
  rcases h with h | h
  · have c0 := h.cell0
    have hsh := h.shape
    have hfz := h.frozen0
    go_enter Tryd.func96, Tryd.ntmps96
    go_wp2
    rw [Lib.run_to_unsafe w ⟨b, 0, none⟩ Tryd.underlying89 Tryd.underlying109 hj (by rw [hjs]; decide) hsh (Nat.zero_lt_succ 1)]
    simp only [Result.andThen]
    rw [Oper.upon_value]
    go_wp2
    have hext : ∀ W : World, (callFunc 102 #[.pointer (some ⟨b, 0, none⟩)]).run Tryd.prog W = .ok (.value (.pointer (some ⟨b, 0, none⟩))) W := fun W => by
      rw [run_callFunc_extern Tryd.func102 (by kernel_rfl) (by kernel_rfl) (by kernel_rfl) (e := Extern.AbiNoEscape.same) (by kernel_rfl), Lib.run_noEscape]
      rfl
    rw [hext]
    rw [Oper.upon_value]
    go_wp2
    rw [Lib.run_from_unsafe w ⟨b, 0, none⟩ Tryd.underlying109 Tryd.underlying89 hj hsh lies7]
    simp only [Result.andThen]
    rw [Oper.upon_value]
    go_wp2
    go_end0
    exact ⟨rfl, h.used _, (Below.refl B w).setCell (p := ⟨b, 0, none⟩) h.1 _, (Lib.OthersKept.refl _ _ w).setCell ⟨b, 0, none⟩ rfl _⟩
  · have c0 := h.cell0
    go_enter Tryd.func96, Tryd.ntmps96
    go_wp2
    rw [Lib.run_neq_ptr_same w _ Tryd.underlying89 hj]
    go_wp2
    go_end0
    exact ⟨rfl, h, Below.refl B _, Lib.OthersKept.refl _ _ _⟩
theorem infoNe7 : 92 ≠ 5 := by decide
set_option maxHeartbeats 2000000 in
set_option maxRecDepth 100000 in
theorem writeByte_any (B b : Nat) (bs : List UInt8) (c : UInt8) (w : World) (h : Bdr w B b bs) (hl : bs.length ≤ 100000) (hBw : B ≤ w.heap.size) :
    Calls Tryd.prog 89 #[.pointer (some ⟨b, 0, none⟩), .int .u8 (c.toNat : Int)] w fun e w' => e = .returned .nilIface ∧ Bdr w' B b (bs ++ [c]) ∧ Below B w w' ∧ Oth w w' b := by
  obtain ⟨i0, hi, hz0, hz1, hz2⟩ := info_parts infoU7
  have hlb : (Lib.byteCells bs).length = bs.length := Lib.byteCells_length _
  have HAPP : Hid (Lib.byteCells bs ++ [.int .u8 (c.toNat : Int)] = Lib.byteCells (bs ++ [c])) := Lib.hid (by rw [Lib.byteCells_append]; rfl)
  have h2 : Lib.IsBuilderF 92 5 B b (Lib.byteCells bs) w := h
  clear h
  rw [← hlb] at hl
  clear hlb
  generalize Lib.byteCells bs = cs at *
  go_enter Tryd.func89, Tryd.ntmps89
  go_wp2_with (go_at_call 96; refine (copyCheck_any B b cs _ h2).mono ?_)
  rintro e w1 ⟨rfl, h1, hb1, hk1⟩
  obtain ⟨hB, v, hbk, hown, hne⟩ := h1
  have c0 : w1.cell? ⟨b, 0, none⟩ = some (.pointer (some ⟨b, 0, none⟩)) := by rw [Lib.cell_of_heap hbk]; rfl
  have c1 : w1.cell? ⟨b, 1, none⟩ = some v := by rw [Lib.cell_of_heap hbk]; rfl
  go_wp2_with (at_builtin; refine wpList_append_ownF _ rfl _ _ 90 rfl B 5 i0 (.int .u8 0) 1 1 Tryd.underlying90 hi hz0 hz1 hz2 rfl (by decide) _ _ _ rfl (hown.alloc _) ⟨w1.heap.size, 0, none⟩ 1 1 [.int .u8 (c.toNat : Int)] rfl rfl ?c1 ?c2 ?c3 ?c4 ?c5 ?_)
  case c1 =>
    intro j u hj
    match j, hj with
    | 0, hj => simp at hj; subst hj; simp [Addr.add]
  case c2 => intro u hu; simp at hu; subst hu; rfl
  case c3 => unfold maxLen; omega
  case c4 => omega
  case c5 => have := hb1.size; simp; omega
  intro v' w2 hown' hgrow _
  have hlt : b < w1.heap.size := (Array.getElem?_eq_some_iff.1 hbk).1
  have hb2 : w2.heap[b]? = some (.cells #[.pointer (some ⟨b, 0, none⟩), v] 92 (0, 0)) := by
    rw [hgrow.block b (by simp; omega) (fun e => hne e.symm), Lib.alloc_old w1 _ b hlt]
    exact hbk
  have d0 : w2.cell? ⟨b, 0, none⟩ = some (.pointer (some ⟨b, 0, none⟩)) := by rw [Lib.cell_of_heap hb2]; rfl
  have d1 : w2.cell? ⟨b, 1, none⟩ = some v := by rw [Lib.cell_of_heap hb2]; rfl
  have f1 : w2.frozen? ⟨b, 1, none⟩ = false := Lib.frozen_of_heap hb2 1
  obtain ⟨g, cap, rfl⟩ : ∃ g cap, v' = .slice (some ⟨g, 0, none⟩) (cs.length + 1) cap := by
    rcases hown'.2 with ⟨_, h0⟩ | ⟨g, cap, cur, fz, hv, _⟩
    · omega
    · exact ⟨g, cap, hv⟩
  go_wp2
  go_ret
  refine ⟨rfl, ?_, ?_, ((hk1.alloc _).grown hgrow (Lib.ownsRowF_kind (hown.alloc _))).setCell ⟨b, 1, none⟩ rfl _⟩
  · have := Lib.BuilderAtF.put (T := 92) (e := 5) hB hb2 (bs' := cs ++ [.int .u8 (c.toNat : Int)]) (by simpa using hown') infoNe7
    rw [HAPP.out] at this
    exact .inr this
  · exact ((hb1.alloc (by have := hb1.size; omega) _).grown hgrow (by have := hb1.size; simp; omega) (fun k hk => (hown.lt k hk).1)).setCell (p := ⟨b, 1, none⟩) hB _
set_option maxHeartbeats 2000000 in
set_option maxRecDepth 100000 in
theorem writeString_any (B b : Nat) (bs : List UInt8) (s : ByteArray) (w : World) (h : Bdr w B b bs) (hl : bs.length ≤ 100000) (hs : s.size ≤ 100000) (hBw : B ≤ w.heap.size) :
    Calls Tryd.prog 88 #[.pointer (some ⟨b, 0, none⟩), .string s] w fun e w' => e = .returned (.tuple #[.int .i64 s.size, .nilIface]) ∧ Bdr w' B b (bs ++ s.data.toList) ∧ Below B w w' ∧ Oth w w' b := by
  obtain ⟨i0, hi, hz0, hz1, hz2⟩ := info_parts infoU7
  have hlb : (Lib.byteCells bs).length = bs.length := Lib.byteCells_length _
  have HAPP : Hid (Lib.byteCells bs ++ Lib.strCells s = Lib.byteCells (bs ++ s.data.toList)) := Lib.hid (by rw [Lib.byteCells_append]; rfl)
  have h2 : Lib.IsBuilderF 92 5 B b (Lib.byteCells bs) w := h
  clear h
  rw [← hlb] at hl
  clear hlb
  generalize Lib.byteCells bs = cs at *
  go_enter Tryd.func88, Tryd.ntmps88
  go_wp2_with (go_at_call 96; refine (copyCheck_any B b cs _ h2).mono ?_)
  rintro e w1 ⟨rfl, h1, hb1, hk1⟩
  obtain ⟨hB, v, hbk, hown, hne⟩ := h1
  have c0 : w1.cell? ⟨b, 0, none⟩ = some (.pointer (some ⟨b, 0, none⟩)) := by rw [Lib.cell_of_heap hbk]; rfl
  have c1 : w1.cell? ⟨b, 1, none⟩ = some v := by rw [Lib.cell_of_heap hbk]; rfl
  go_wp2_with (at_builtin; refine Lib.wpList_append_own_stringF _ rfl _ _ 90 9 rfl B 5 i0 Tryd.underlying90 Tryd.underlying9 hi hz0 hz1 hz2 _ _ _ rfl hown s rfl ?c3 ?c4 ?c5 ?_)
  case c3 => unfold maxLen; omega
  case c4 => omega
  case c5 => have := hb1.size; omega
  intro v' w2 hown' hgrow _
  have hlt : b < w1.heap.size := (Array.getElem?_eq_some_iff.1 hbk).1
  have hb2 : w2.heap[b]? = some (.cells #[.pointer (some ⟨b, 0, none⟩), v] 92 (0, 0)) := by
    rw [hgrow.block b hlt (fun e => hne e.symm)]
    exact hbk
  have d0 : w2.cell? ⟨b, 0, none⟩ = some (.pointer (some ⟨b, 0, none⟩)) := by rw [Lib.cell_of_heap hb2]; rfl
  have d1 : w2.cell? ⟨b, 1, none⟩ = some v := by rw [Lib.cell_of_heap hb2]; rfl
  have f1 : w2.frozen? ⟨b, 1, none⟩ = false := Lib.frozen_of_heap hb2 1
  obtain ⟨ao, n', cap, rfl⟩ : ∃ ao n' cap, v' = .slice ao n' cap := by
    rcases hown'.2 with ⟨hv, _⟩ | ⟨g, cap, cur, fz, hv, _⟩
    · exact ⟨_, _, _, hv⟩
    · exact ⟨_, _, _, hv⟩
  go_wp2
  go_ret2
  refine ⟨rfl, ?_, ?_, (hk1.grown hgrow (Lib.ownsRowF_kind hown)).setCell ⟨b, 1, none⟩ rfl _⟩
  · have := Lib.BuilderAtF.put (T := 92) (e := 5) hB hb2 (bs' := cs ++ Lib.strCells s) (by simpa [Lib.strCells_length] using hown') infoNe7
    rw [HAPP.out] at this
    exact .inr this
  · exact (hb1.grown hgrow (by have := hb1.size; omega) (fun k hk => (hown.lt k hk).1)).setCell (p := ⟨b, 1, none⟩) hB _
end Go.Proofs.YtbcgidgjdedkiaaDoor
/- The library's contracts at this translation: a builder's String, SplitN. -/
namespace Go.Proofs.YtbcgidgjdedkiaaDoor
open Go.Shelf Go.RowKit Go.Lib
def Tryd.lays169_ren : Go.Shelf.Ren := ⟨fun | 169 => 90 | n => n, fun | 70 => 89 | 9 => 9 | 0 => 0 | 72 => 92 | 37 => 90 | 127 => 101 | 3 => 3 | 5 => 5 | n => n, fun | n => n⟩
theorem Tryd.lays169 : Go.Proofs.Lays.n169 Tryd.prog Tryd.lays169_ren := {
  mixed := by kernel_rfl
  f169 := Tryd.func90.trans (congrArg some (by kernel_rfl))
  t0 := Tryd.underlying0
  a0 := Tryd.isAgg0
  z0 := Tryd.sizeOf0
  v0 := Tryd.zeroValue0
  t3 := Tryd.underlying3
  a3 := Tryd.isAgg3
  z3 := Tryd.sizeOf3
  v3 := Tryd.zeroValue3
  t9 := Tryd.underlying9
  a9 := Tryd.isAgg9
  z9 := Tryd.sizeOf9
  v9 := Tryd.zeroValue9
  t37 := Tryd.underlying90
  a37 := Tryd.isAgg90
  z37 := Tryd.sizeOf90
  v37 := Tryd.zeroValue90
  t70 := Tryd.underlying89
  a70 := Tryd.isAgg89
  z70 := Tryd.sizeOf89
  v70 := Tryd.zeroValue89
  t72 := Tryd.underlying92
  a72 := Tryd.isAgg92
  z72 := Tryd.sizeOf92
  v72 := Tryd.zeroValue92
  t127 := Tryd.underlying101
  a127 := Tryd.isAgg101
  z127 := Tryd.sizeOf101
  v127 := Tryd.zeroValue101 }
theorem Tryd.Builder_Extra_169 : Builder.Extra Tryd.prog Tryd.lays169_ren := {
  sizeBuilder := by kernel_rfl
  liesBuilder := by kernel_rfl
  t5 := Tryd.underlying5
  a5 := Tryd.isAgg5
  z5 := Tryd.sizeOf5
  v5 := Tryd.zeroValue5
  infoByte := by kernel_rfl
  cellsByte := by kernel_rfl
  sizeByte := by kernel_rfl
  neB5 := by decide }
theorem Tryd.Builder_String_any_k (B b : Nat) (l : List UInt8) (w : World) (h : Lib.IsBuilderF 92 5 B b (Lib.byteCells l) w) (hBw : B ≤ w.heap.size) :
    Calls Tryd.prog 90 #[.pointer (some ⟨b, 0, none⟩)] w fun e w' => e = .returned (.string ⟨l.toArray⟩) ∧ (Lib.IsBuilderF 92 5 B b (Lib.byteCells l) w' ∧ Below B w w' ∧ Lib.OthersKept 5 (some b) w w') := Any.Builder_String_any_k Tryd.lays169 Tryd.Builder_Extra_169 B b l w h hBw
def Tryd.lays147_ren : Go.Shelf.Ren := ⟨fun | 147 => 76 | 221 => 94 | 268 => 99 | 138 => 100 | 143 => 101 | 195 => 104 | 197 => 105 | 218 => 106 | 219 => 107 | 260 => 109 | 217 => 110 | 225 => 111 | 224 => 112 | 267 => 113 | 266 => 114 | 314 => 115 | n => n, fun | 9 => 9 | 3 => 3 | 31 => 31 | 4 => 4 | 0 => 0 | 105 => 112 | 21 => 21 | 5 => 5 | 46 => 116 | 119 => 117 | 139 => 120 | 138 => 119 | 146 => 122 | 51 => 121 | n => n, fun | 1 => 0 | 3 => 1 | 4 => 2 | n => n⟩
theorem Tryd.lays147 : Go.Proofs.Lays.n147 Tryd.prog Tryd.lays147_ren := {
  mixed := by kernel_rfl
  f138 := Tryd.func100.trans (congrArg some (by kernel_rfl))
  f143 := Tryd.func101.trans (congrArg some (by kernel_rfl))
  f147 := Tryd.func76.trans (congrArg some (by kernel_rfl))
  f195 := Tryd.func104.trans (congrArg some (by kernel_rfl))
  f197 := Tryd.func105.trans (congrArg some (by kernel_rfl))
  f217 := Tryd.func110.trans (congrArg some (by kernel_rfl))
  f218 := Tryd.func106.trans (congrArg some (by kernel_rfl))
  f219 := Tryd.func107.trans (congrArg some (by kernel_rfl))
  f221 := Tryd.func94.trans (congrArg some (by kernel_rfl))
  f224 := Tryd.func112.trans (congrArg some (by kernel_rfl))
  f225 := Tryd.func111.trans (congrArg some (by kernel_rfl))
  f260 := Tryd.func109.trans (congrArg some (by kernel_rfl))
  f266 := Tryd.func114.trans (congrArg some (by kernel_rfl))
  f267 := Tryd.func113.trans (congrArg some (by kernel_rfl))
  f268 := Tryd.func99.trans (congrArg some (by kernel_rfl))
  f314 := Tryd.func115.trans (congrArg some (by kernel_rfl))
  t0 := Tryd.underlying0
  a0 := Tryd.isAgg0
  z0 := Tryd.sizeOf0
  v0 := Tryd.zeroValue0
  t3 := Tryd.underlying3
  a3 := Tryd.isAgg3
  z3 := Tryd.sizeOf3
  v3 := Tryd.zeroValue3
  t4 := Tryd.underlying4
  a4 := Tryd.isAgg4
  z4 := Tryd.sizeOf4
  v4 := Tryd.zeroValue4
  t5 := Tryd.underlying5
  a5 := Tryd.isAgg5
  z5 := Tryd.sizeOf5
  v5 := Tryd.zeroValue5
  t9 := Tryd.underlying9
  a9 := Tryd.isAgg9
  z9 := Tryd.sizeOf9
  v9 := Tryd.zeroValue9
  t21 := Tryd.underlying21
  a21 := Tryd.isAgg21
  z21 := Tryd.sizeOf21
  v21 := Tryd.zeroValue21
  t31 := Tryd.underlying31
  a31 := Tryd.isAgg31
  z31 := Tryd.sizeOf31
  v31 := Tryd.zeroValue31
  t46 := Tryd.underlying116
  a46 := Tryd.isAgg116
  z46 := Tryd.sizeOf116
  v46 := Tryd.zeroValue116
  t51 := Tryd.underlying121
  a51 := Tryd.isAgg121
  z51 := Tryd.sizeOf121
  v51 := Tryd.zeroValue121
  t105 := Tryd.underlying112
  a105 := Tryd.isAgg112
  z105 := Tryd.sizeOf112
  v105 := Tryd.zeroValue112
  t119 := Tryd.underlying117
  a119 := Tryd.isAgg117
  z119 := Tryd.sizeOf117
  t138 := Tryd.underlying119
  a138 := Tryd.isAgg119
  z138 := Tryd.sizeOf119
  v138 := Tryd.zeroValue119
  t139 := Tryd.underlying120
  a139 := Tryd.isAgg120
  z139 := Tryd.sizeOf120
  v139 := Tryd.zeroValue120
  t146 := Tryd.underlying122
  a146 := Tryd.isAgg122
  z146 := Tryd.sizeOf122
  v146 := Tryd.zeroValue122
  g1 := by kernel_rfl
  g3 := by kernel_rfl
  g4 := by kernel_rfl }
theorem Tryd.strings_SplitN (s sep : ByteArray) (n : Nat) (m : Int) (w : World) (hs : s.size < 4294967281) (hm : w.cell? ⟨0, 0, none⟩ = some (.int .i64 m)) (h1 : 1 ≤ sep.size) (hn : 1 ≤ n) (hn63 : n ≤ 9223372036854775807) :
    Calls Tryd.prog 76 #[.string s, .string sep, .int .i64 n] w fun e w' =>
      e = .returned (.slice (some ⟨w.heap.size, 0, none⟩) (Lib.splitB sep 0 (min n (s.size + 1) - 1) s).length (min n (s.size + 1))) ∧ w' = w.alloc (.cells (Lib.cellsOf (Lib.splitB sep 0 (min n (s.size + 1) - 1) s) (min n (s.size + 1))) 9) := Any.strings_SplitN Tryd.lays147 (by kernel_rfl) s sep n m w hs hm h1 hn hn63
end Go.Proofs.YtbcgidgjdedkiaaDoor
/- Chapter 7: texts split into rows, by the library: what SplitN answers for pictures. -/
namespace Go.Proofs.YtbcgidgjdedkiaaDoor
open Go.RowKit

theorem foldl_shift (b : UInt8) (x : List UInt8) : ∀ (rs : List (List UInt8)) (r : List UInt8), rs.foldl (fun acc y => acc ++ (b :: y)) (x ++ b :: r) = x ++ b :: rs.foldl (fun acc y => acc ++ (b :: y)) r
  | [], _ => rfl
  | y :: rs, r => by
    rw [List.foldl_cons, List.foldl_cons, ← foldl_shift b x rs]
    simp
theorem joinP_cons (b : UInt8) (x : List UInt8) (rs : List (List UInt8)) (h : rs ≠ []) : joinP b (x :: rs) = x ++ b :: joinP b rs := by
  cases rs with
  | nil => exact absurd rfl h
  | cons r rs => exact foldl_shift b x rs r
theorem parts_ne (l : List UInt8) (b : UInt8) : parts l b ≠ [] := by
  intro e
  have := (parts_len l b).1
  rw [e] at this
  simp at this
theorem parts_cons (x m : List UInt8) (b : UInt8) (h : ∀ c ∈ x, c ≠ b) : parts (x ++ b :: m) b = x :: parts m b := by
  have e := joinP_cons b x (parts m b) (parts_ne m b)
  rw [join_parts] at e
  rw [← e]
  refine parts_join b _ (by simp) fun y hy => ?_
  rcases List.mem_cons.1 hy with rfl | hy
  · exact h
  · exact part_free m b y hy
theorem occ_iff (s : List UInt8) (c : UInt8) (j : Nat) : Lib.occAt s [c] j = true ↔ s[j]? = some c := by
  unfold Lib.occAt
  have e : s[j]? = (s.drop j)[0]? := by rw [List.getElem?_drop, Nat.add_zero]
  rw [e]
  cases s.drop j with
  | nil => simp [List.isPrefixOf]
  | cons x t =>
    simp [List.isPrefixOf]
    exact ⟨fun h => h.symm, fun h => h.symm⟩
theorem index_at (s : List UInt8) (c : UInt8) : (Lib.index s [c] = -1 ∧ ∀ x ∈ s, x ≠ c) ∨ ∃ i : Nat, Lib.index s [c] = i ∧ s = s.take i ++ c :: s.drop (i + 1) ∧ ∀ x ∈ s.take i, x ≠ c := by
  rcases Lib.index_spec s [c] with ⟨h1, h2⟩ | ⟨i, h1, h2, h3, h4⟩
  · refine .inl ⟨h1, fun x hx e => ?_⟩
    obtain ⟨j, hj, hjx⟩ := List.getElem_of_mem hx
    have := h2 j (by omega)
    rw [(occ_iff s c j).2 (by rw [List.getElem?_eq_getElem hj, hjx, e])] at this
    cases this
  · have h5 := (occ_iff s c i).1 h3
    obtain ⟨hi, hc⟩ := List.getElem?_eq_some_iff.1 h5
    refine .inr ⟨i, h1, ?_, fun x hx e => ?_⟩
    · have := (List.take_append_drop i s).symm
      rw [List.drop_eq_getElem_cons hi, hc] at this
      exact this
    · obtain ⟨j, hj, hjx⟩ := List.getElem_of_mem hx
      rw [List.length_take] at hj
      rw [List.getElem_take] at hjx
      have h6 := h4 j (by omega)
      rw [(occ_iff s c j).2 (by rw [List.getElem?_eq_getElem (by omega), hjx, e])] at h6
      cases h6
theorem splitK_parts (c : UInt8) : ∀ (k : Nat) (s : List UInt8), ((parts s c).length ≤ k + 1 → Lib.splitK [c] 0 k s = parts s c) ∧ (k + 1 < (parts s c).length → (Lib.splitK [c] 0 k s).length = k + 1)
  | 0, s => by
    rcases index_at s c with ⟨_, h⟩ | ⟨i, _, h, hf⟩
    · rw [parts_free s c h]
      exact ⟨fun _ => rfl, fun h => absurd h (by simp)⟩
    · rw [h, parts_cons _ _ _ hf]
      refine ⟨fun hl => ?_, fun _ => rfl⟩
      have := (parts_len (s.drop (i + 1)) c).1
      rw [List.length_cons] at hl
      omega
  | k + 1, s => by
    have ih := splitK_parts c k
    rcases index_at s c with ⟨h1, h⟩ | ⟨i, h1, h, hf⟩
    · rw [parts_free s c h]
      refine ⟨fun _ => ?_, fun h => absurd h (by simp)⟩
      unfold Lib.splitK
      rw [if_pos (by rw [h1]; rfl)]
    · have e : Lib.splitK [c] 0 (k + 1) s = s.take i :: Lib.splitK [c] 0 k (s.drop (i + 1)) := by
        rw [Lib.splitK, if_neg (by rw [h1]; intro e; have := beq_iff_eq.1 e; omega), h1]
        simp
      have hp : parts s c = s.take i :: parts (s.drop (i + 1)) c := by
        have := parts_cons (s.take i) (s.drop (i + 1)) c hf
        rw [← h] at this
        exact this
      rw [e, hp]
      obtain ⟨i1, i2⟩ := ih (s.drop (i + 1))
      refine ⟨fun hl => ?_, fun hl => ?_⟩
      · rw [i1 (by simp at hl; omega)]
      · rw [List.length_cons, i2 (by simp at hl; omega)]
/-- The library's variable holds a number. -/
def MaxL (w : World) : Prop := ∃ m, w.cell? ⟨0, 0, none⟩ = some (.int .i64 m)
theorem MaxL.below {w w' : World} (h : MaxL w) (hb : Below w.heap.size w w') : MaxL w' := by
  obtain ⟨m, h⟩ := h
  exact ⟨m, (hb.cell (p := ⟨0, 0, none⟩) (World.block_lt_of_cell? _ _ h)).trans h⟩
/-- The rows that are split off: all, or just too many. -/
def rowsL (l : List UInt8) : List (List UInt8) := Lib.splitK [47] 0 (min 24 l.length) l
theorem rowsL_len (l : List UInt8) : 1 ≤ (rowsL l).length := by
  unfold rowsL
  cases h : min 24 l.length with
  | zero => simp [Lib.splitK]
  | succ k => unfold Lib.splitK; split <;> simp
theorem rowsL_of (l : List UInt8) : ((parts l 47).length ≤ 24 ∧ rowsL l = parts l 47) ∨ (24 < (parts l 47).length ∧ (rowsL l).length = 25) := by
  have hl := (parts_len l 47).2
  rcases Nat.lt_or_ge 24 (parts l 47).length with h | h
  · refine .inr ⟨h, ?_⟩
    have hk : min 24 l.length = 24 := by omega
    obtain ⟨h1, h2⟩ := splitK_parts 47 24 l
    unfold rowsL
    rw [hk]
    rcases Nat.lt_or_ge 25 (parts l 47).length with h3 | h3
    · exact h2 h3
    · rw [h1 h3]; omega
  · refine .inl ⟨h, ?_⟩
    unfold rowsL
    exact (splitK_parts 47 _ l).1 (by omega)
theorem splitN_any (s : ByteArray) (w : World) (hs : s.size ≤ 2000000) (hM : MaxL w) :
    Calls Tryd.prog 76 #[.string s, .string ⟨#[47]⟩, .int .i64 25] w fun e w' => (∃ c, e = .returned (.slice (some ⟨w.heap.size, 0, none⟩) (rowsL s.data.toList).length c)) ∧ (∀ j x, (rowsL s.data.toList)[j]? = some x → w'.cell? ⟨w.heap.size, j, none⟩ = some (.string (bt x))) ∧ w.heap.size < w'.heap.size ∧ Below w.heap.size w w' := by
  obtain ⟨m, hm⟩ := hM
  refine (Tryd.strings_SplitN s ⟨#[47]⟩ 25 m w (by omega) hm (by decide) (by decide) (by decide)).mono ?_
  rintro e w' ⟨rfl, rfl⟩
  have hd : (Lib.splitB ⟨#[47]⟩ 0 (min 25 (s.size + 1) - 1) s).map (·.data.toList) = rowsL s.data.toList := by
    rw [Lib.splitB_data]
    unfold rowsL
    congr 1
    have : s.data.toList.length = s.size := by simp
    omega
  have hl : (Lib.splitB ⟨#[47]⟩ 0 (min 25 (s.size + 1) - 1) s).length = (rowsL s.data.toList).length := by rw [← hd, List.length_map]
  refine ⟨⟨_, by rw [hl]⟩, fun j x hx => ?_, by simp, (Below.refl _ _).alloc (Nat.le_refl _) _⟩
  rw [World.cell?_alloc_at _ _ _ _ (by simp)]
  rw [← hd, List.getElem?_map] at hx
  obtain ⟨y, hy, rfl⟩ := Option.map_eq_some_iff.1 hx
  obtain ⟨hj, _⟩ := List.getElem?_eq_some_iff.1 hy
  unfold Lib.cellsOf
  rw [List.getElem?_toArray, List.getElem?_append_left (by simpa using hj), List.getElem?_map, hy]
  simp [bt]
end Go.Proofs.YtbcgidgjdedkiaaDoor
/- Chapter 7: the specification's parts of a text. -/
namespace Go.Proofs.YtbcgidgjdedkiaaDoor
open Go.ChangeShapes Go.WideShapes Go.ChangeAt Go.RowKit

theorem infoStr : (Tryd.prog.info? 9).map (fun i => (i.zero, i.size, i.bytes)) = some (some (.string ⟨#[]⟩), 1, 16) := by kernel_rfl
/-- Texts as cells. -/
def strs (xs : List (List UInt8)) : List Value := xs.map fun x => .string (bt x)
theorem strs_app (xs : List (List UInt8)) (x : List UInt8) : strs xs ++ [.string (bt x)] = strs (xs ++ [x]) := by simp [strs]
theorem strs_len (xs : List (List UInt8)) : (strs xs).length = xs.length := by simp [strs]
theorem ba_get (s : ByteArray) (k : Nat) (h : k < s.size) : s.data.toList[k]? = some s[k] := by
  have : k < s.data.toList.length := by simpa using h
  rw [List.getElem?_eq_getElem this]
  simp [ByteArray.getElem_eq_getElem_data]
theorem ba_cut (s : ByteArray) (i j : Nat) : s.extract i j = bt ((s.data.toList.take j).drop i) := by
  have h := bt_cut s.data.toList i j
  rw [← bt_of] at h
  exact h
set_option maxRecDepth 4000 in
set_option maxHeartbeats 1600000 in
theorem l1Split_any (s : ByteArray) (w : World) (hs : s.size ≤ 1000000) :
    Calls Tryd.prog 74 #[.string s, .int .u8 47] w fun e w' => (∃ A c, e = .returned (.slice A (parts s.data.toList 47).length c) ∧ w'.ownsRow w.heap.size 9 1 (.slice A (parts s.data.toList 47).length c) (parts s.data.toList 47).length (strs (parts s.data.toList 47))) ∧ Below w.heap.size w w' := by
  obtain ⟨i0, hi0, hz0, hz1, hz2⟩ := info_parts infoStr
  have HP : Hid (parts s.data.toList 47 = (upP s.data.toList 47 s.size).1 ++ [(s.data.toList.take s.size).drop (upP s.data.toList 47 s.size).2]) := Lib.hid (by rw [List.take_of_length_le (by simp)]; simp [parts])
  have HU := Lib.hid fun k => upP_le s.data.toList 47 k
  have HL := Lib.hid fun k => upP_len s.data.toList 47 k
  have HSU := Lib.hid fun k => (show upP s.data.toList 47 (k + 1) = if s.data.toList[k]? = some 47 then ((upP s.data.toList 47 k).1 ++ [(s.data.toList.take k).drop (upP s.data.toList 47 k).2], k + 1) else upP s.data.toList 47 k from rfl)
  have HC := Lib.hid fun i j => ba_cut s i j
  go_enter Tryd.func74, Tryd.ntmps74
  go_wp2
  go_loopw [5, 6, 7] (fun v f i wr => ∃ k : Nat, k ≤ s.size ∧ i = .int .i64 (k : Int) ∧ f = .int .i64 ((upP s.data.toList 47 k).2 : Int) ∧ Hid (wr.ownsRow w.heap.size 9 1 v (upP s.data.toList 47 k).1.length (strs (upP s.data.toList 47 k).1)) ∧ Hid (Below w.heap.size w wr)) (fun _ _ i _ => s.size - (intOf i).toNat)
  case atStart => exact ⟨0, by omega, by simp, by simp [upP], Lib.hid (World.ownsRow_nil _ _ _ _), Lib.hid (Below.refl _ _)⟩
  case round =>
    obtain ⟨k, hk, rfl, rfl, hown, hb⟩ := hrel
    by_cases hlt : k < s.size
    · have hlt2 : (k : Int) < (s.size : Int) := by omega
      have hg := ba_get s k hlt
      have hsu := HSU.out k
      have hu := HU.out k
      have hl := HL.out k
      have hcut := HC.out (upP s.data.toList 47 k).2 k
      generalize upP s.data.toList 47 k = st at *
      obtain ⟨P, f⟩ := st
      simp only at hu hl hcut hown hsu ⊢
      by_cases hc : s[k] = 47
      · have hB : ((s[k].toNat : Int) == 47) = true := by rw [hc]; rfl
        rw [hg, hc, if_pos rfl] at hsu
        have HSK := Lib.hid hsu
        have HCUT := Lib.hid hcut
        have hf0 : (0 : Int) ≤ (f : Int) := by omega
        have hf1 : (f : Int) ≤ (k : Int) := by omega
        clear hsu hg hc hcut
        go_wp2_with (at_builtin; refine wpList_append_own _ rfl _ _ 31 rfl w.heap.size 9 i0 (.string ⟨#[]⟩) 1 16 Tryd.underlying31 hi0 hz0 hz1 hz2 rfl (by decide) _ _ _ rfl (hown.out.alloc _) ⟨wr.heap.size, 0, none⟩ 1 1 [.string (s.extract f k)] rfl rfl ?c1 ?c2 ?c3 ?c4 ?c5 ?_)
        case c1 =>
          intro j u hj
          match j, hj with
          | 0, hj => simp at hj; subst hj; simp [Addr.add]
        case c2 => intro u hu; simp at hu; subst hu; rfl
        case c3 => unfold maxLen; omega
        case c4 => omega
        case c5 => have := hb.out.size; simp; omega
        · intro v' w4 hown' hgrow _
          have HO4 := Lib.hid hown'
          have HB4 := Lib.hid ((hb.out.alloc hb.out.size _).grown hgrow (by have := hb.out.size; simp; omega) fun g hg => (hown.out.lt g hg).1)
          clear hown' hgrow hown hb
          go_wp2
          go_roundw
          case rel =>
            refine ⟨k + 1, by omega, by go_num, by rw [HSK.out]; go_num, Lib.hid ?_, HB4⟩
            rw [HSK.out]
            simp only [List.length_append, List.length_singleton]
            rw [← strs_app, ← HCUT.out]
            exact HO4.out
          case measure => simp [intOf]; omega
      · have hB : ((s[k].toNat : Int) == 47) = false := by
          have : ¬ s[k].toNat = 47 := fun e => hc (UInt8.toNat_inj.1 e)
          simp
          omega
        have hne : ¬ (s.data.toList[k]? = some 47) := by rw [hg]; exact fun e => hc (Option.some.inj e)
        rw [if_neg hne] at hsu
        have HSK := Lib.hid hsu
        clear hsu hg hc hcut hne
        go_wp2
        go_roundw
        case rel => exact ⟨k + 1, by omega, by go_num, by rw [HSK.out], by rw [HSK.out]; exact hown, hb⟩
        case measure => simp [intOf]; omega
    · obtain rfl : k = s.size := by omega
      have hu := HU.out s.size
      have hl := HL.out s.size
      have hcut := HC.out (upP s.data.toList 47 s.size).2 s.size
      have hpp := HP.out
      generalize upP s.data.toList 47 s.size = st at *
      obtain ⟨P, f⟩ := st
      simp only at hu hl hcut hown hpp ⊢
      have HPP := Lib.hid hpp
      have HCUT := Lib.hid hcut
      have HE : Hid ((parts s.data.toList 47).length = P.length + 1) := Lib.hid (by rw [hpp]; simp)
      have hf0 : (0 : Int) ≤ (f : Int) := by omega
      have hf1 : (f : Int) ≤ (s.size : Int) := by omega
      clear hpp hcut
      go_wp2_with (at_builtin; refine wpList_append_own _ rfl _ _ 31 rfl w.heap.size 9 i0 (.string ⟨#[]⟩) 1 16 Tryd.underlying31 hi0 hz0 hz1 hz2 rfl (by decide) _ _ _ rfl (hown.out.alloc _) ⟨wr.heap.size, 0, none⟩ 1 1 [.string (s.extract f s.size)] rfl rfl ?c1 ?c2 ?c3 ?c4 ?c5 ?_)
      case c2 => rfl
      case c3 => unfold maxLen; omega
      case c4 => omega
      case c5 => have := hb.out.size; simp; omega
      · intro v' w4 hown' hgrow _
        obtain ⟨A, c, rfl⟩ := row_form hown'
        have HO4 := Lib.hid hown'
        have HB4 := Lib.hid ((hb.out.alloc hb.out.size _).grown hgrow (by have := hb.out.size; simp; omega) fun g hg => (hown.out.lt g hg).1)
        clear hown' hgrow hown hb
        go_wp2
        go_ret
        refine ⟨⟨A, c, by rw [HE.out]; rfl, ?_⟩, HB4.out⟩
        rw [HE.out, HPP.out, ← strs_app, ← HCUT.out]
        exact HO4.out
end Go.Proofs.YtbcgidgjdedkiaaDoor
/- Chapter 7: the specification's rows of a picture. -/
namespace Go.Proofs.YtbcgidgjdedkiaaDoor
open Go.ChangeShapes Go.WideShapes Go.ChangeAt Go.RowKit

/-- A row as it must be. -/
def okRow (W : Nat) (r : List UInt8) : Bool := decide (r.length = W) && r.all isSgn
theorem rowsOk_iff (R : List (List UInt8)) : rowsOk R = true ↔ R.length ≤ 24 ∧ 1 ≤ (R.headD []).length ∧ (R.headD []).length ≤ 24 ∧ ∀ j (h : j < R.length), okRow (R.headD []).length R[j] = true := by
  unfold rowsOk
  simp only [Bool.and_eq_true, decide_eq_true_eq]
  constructor
  · rintro ⟨⟨⟨a, b⟩, c⟩, d⟩
    refine ⟨a, b, c, fun j h => ?_⟩
    have := (List.all_eq_true.1 d) _ (List.getElem_mem h)
    simpa [okRow] using this
  · rintro ⟨a, b, c, d⟩
    refine ⟨⟨⟨a, b⟩, c⟩, List.all_eq_true.2 fun r hr => ?_⟩
    obtain ⟨j, hj, rfl⟩ := List.getElem_of_mem hr
    have := d j hj
    simpa [okRow] using this
/-- What doRows answers, R the parts of the text. -/
def DoQ (R : List (List UInt8)) (w : World) (e : Ending) (w' : World) : Prop :=
  ((rowsOk R = true ∧ ∃ A c, e = .returned (.tuple #[.slice A R.length c, .bool true]) ∧ w'.ownsRow w.heap.size 9 1 (.slice A R.length c) R.length (strs R)) ∨
    (rowsOk R = false ∧ e = .returned (.tuple #[.slice none 0 0, .bool false]))) ∧ Below w.heap.size w w'
theorem sg_of (c : UInt8) : isSgn c = true ↔ ¬ ((c.toNat : Int) ≠ 111 ∧ (c.toNat : Int) ≠ 46) := by
  unfold isSgn
  simp only [Bool.or_eq_true, beq_iff_eq, ← UInt8.toNat_inj]
  have e1 : (111 : UInt8).toNat = 111 := rfl
  have e2 : (46 : UInt8).toNat = 46 := rfl
  rw [e1, e2]
  omega
set_option maxRecDepth 4000 in
set_option maxHeartbeats 1600000 in
theorem doRows_of (s : ByteArray) (R : List (List UInt8)) (w : World) (h62 : (s.size : Int) ≤ 600) (hn0 : 1 ≤ R.length) (hn1 : R.length ≤ 601)
    (hS : ∀ W : World, Calls Tryd.prog 74 #[.string s, .int .u8 47] W fun e w' => (∃ A c, e = .returned (.slice A R.length c) ∧ w'.ownsRow W.heap.size 9 1 (.slice A R.length c) R.length (strs R)) ∧ Below W.heap.size W w') :
    Calls Tryd.prog 45 #[.string s] w (DoQ R w) := by
  have HS := Lib.hid hS
  have HOK := Lib.hid (rowsOk_iff R)
  obtain ⟨n, hn⟩ : ∃ n, n = R.length := ⟨_, rfl⟩
  have HN := Lib.hid hn
  have hQ : Hid (∀ e w', DoQ R w e w' = (((rowsOk R = true ∧ ∃ A c, e = .returned (.tuple #[.slice A n c, .bool true]) ∧ w'.ownsRow w.heap.size 9 1 (.slice A n c) n (strs R)) ∨ (rowsOk R = false ∧ e = .returned (.tuple #[.slice none 0 0, .bool false]))) ∧ Below w.heap.size w w')) := Lib.hid fun e w' => by rw [hn]; rfl
  rw [← hn] at hn0 hn1 HS
  clear hS hn
  go_enter Tryd.func45, Tryd.ntmps45
  go_upto_region 4 with (go_at_call 74; refine (HS.out _).mono ?_; rintro e w1 ⟨⟨A, c, rfl, hrow⟩, hb1⟩; have HR := Lib.hid hrow; have HB := Lib.hid hb1; clear hrow hb1)
  obtain ⟨g, o, hA, hg1, hg2⟩ : ∃ g o, A = some ⟨g, o, none⟩ ∧ w.heap.size ≤ g ∧ g < w1.heap.size := by
    obtain ⟨g, o, a, b, c, _⟩ := (own_of_row HR.out).at_ (k := 0) (by rw [strs_len, ← HN.out]; omega)
    exact ⟨g, o, a, b, c⟩
  subst hA
  have HC : Hid (∀ j : Nat, j < n → w1.cell? ⟨g, o + j, none⟩ = some (.string (bt (R.getD j [])))) := Lib.hid fun j hj => by
    have hjl : j < R.length := by rw [← HN.out]; exact hj
    obtain ⟨g', o', hA, _, _, q, _⟩ := (own_of_row HR.out).at_ (k := j) (by rw [strs_len]; exact hjl)
    obtain ⟨rfl, rfl⟩ : g = g' ∧ o = o' := by simpa using hA
    rw [q]
    simp [strs, List.getD, hjl]
  have c0 : w1.cell? ⟨g, o, none⟩ = some (.string (bt (R.getD 0 []))) := HC.out 0 (by omega)
  have hW0 : (bt (R.getD 0 [])).size = (R.headD []).length := by
    rw [bt_size]
    cases R with
    | nil => rfl
    | cons r rs => rfl
  generalize bt (R.getD 0 []) = t0 at *
  obtain ⟨W, hW⟩ : ∃ W, W = t0.size := ⟨_, rfl⟩
  rw [← hW] at hW0
  rw [← hW0] at HOK
  have HWZ := Lib.hid hW
  clear HS hW0 hW
  by_cases hbig : 24 < n
  · have hno : rowsOk R = false := by
      cases hr : rowsOk R
      · rfl
      · have := (HOK.out.1 hr).1
        rw [← HN.out] at this
        omega
    have HNO := Lib.hid hno
    have hb2 : (24 : Int) < (n : Int) := by omega
    clear hno hbig
    go_wp2
    go_ret2
    rw [hQ.out]
    exact ⟨.inr ⟨HNO.out, rfl⟩, HB.out⟩
  · have hb2 : (n : Int) ≤ 24 := by omega
    by_cases hw : (t0.size : Int) < 1 ∨ 24 < (t0.size : Int)
    · have HI := Lib.hid (betr_no hw)
      have hno : rowsOk R = false := by
        cases hr : rowsOk R
        · rfl
        · have := HOK.out.1 hr
          have := HWZ.out
          omega
      have HNO := Lib.hid hno
      clear hno hw
      go_wp2_with (go_at_call 75; refine (rin_any _ _ _ _).mono ?_; rw [HI.out]; rintro e w' ⟨rfl, rfl⟩)
      go_ret2
      rw [hQ.out]
      exact ⟨.inr ⟨HNO.out, rfl⟩, HB.out⟩
    · have HI := Lib.hid (betr_yes (x := (t0.size : Int)) (lo := 1) (hi := 24) (by omega) (by omega))
      have ht0 : (1 : Int) ≤ (t0.size : Int) := by omega
      have ht1 : (t0.size : Int) ≤ 24 := by omega
      clear hw
      go_wp2_with (go_at_call 75; refine (rin_any _ _ _ _).mono ?_; rw [HI.out]; rintro e w' ⟨rfl, rfl⟩)
      have HBAD : Hid (∀ j, j < n → okRow W (R.getD j []) = false → rowsOk R = false) := Lib.hid fun j hj hb => by
        cases hr : rowsOk R
        · rfl
        · have hjl : j < R.length := by rw [← HN.out]; exact hj
          have := (HOK.out.1 hr).2.2.2 j hjl
          have e : R.getD j [] = R[j] := by simp [List.getD, hjl]
          rw [e, this] at hb
          exact hb
      have HALL : Hid ((∀ j, j < n → okRow W (R.getD j []) = true) → rowsOk R = true) := Lib.hid fun ha => by
        refine HOK.out.2 ⟨by rw [← HN.out]; omega, by have := HWZ.out; omega, by have := HWZ.out; omega, fun j hj => ?_⟩
        have := ha j (by rw [HN.out]; exact hj)
        have e : R.getD j [] = R[j] := by simp [List.getD, hj]
        rwa [e] at this
      clear HOK
      go_loopw [26] (fun i wr => wr = w1 ∧ ∃ j : Nat, j ≤ n ∧ i = .int .i64 (j : Int) ∧ Hid (∀ k, k < j → okRow W (R.getD k []) = true)) (fun i _ => n - (intOf i).toNat)
      case atStart => exact ⟨rfl, 0, by omega, by simp, Lib.hid fun k hk => by omega⟩
      case round =>
        obtain ⟨rfl, j, hj, rfl, hok⟩ := hrel
        by_cases hlt : j < n
        · have hlt2 : (j : Int) < (n : Int) := by omega
          have cj := HC.out j hlt
          have hts : (bt (R.getD j [])).size = (R.getD j []).length := bt_size _
          have htg : ∀ (x : Nat) (h : x < (bt (R.getD j [])).size), (R.getD j [])[x]? = some (bt (R.getD j []))[x] := fun x h => by have := ba_get (bt (R.getD j [])) x h; rwa [bt_list] at this
          have hbad := HBAD.out j hlt
          generalize hr : R.getD j [] = r at *
          generalize bt r = t at *
          have HTS := Lib.hid hts
          have HTG := Lib.hid htg
          have HBJ := Lib.hid hbad
          have HRJ := Lib.hid hr
          clear hts htg hbad hr
          by_cases hsz : t.size = t0.size
          · have hB : ((t.size : Int) != (t0.size : Int)) = false := by simp [hsz]
            have HSZ := Lib.hid hsz
            have ht24 : (t.size : Int) ≤ 24 := by omega
            clear hsz
            go_wp2
            go_loopw [7] (fun i w2 => w2 = wr ∧ ∃ x : Nat, x ≤ t.size ∧ i = .int .i64 (x : Int) ∧ Hid (∀ (k : Nat) (h : k < t.size), k < x → isSgn t[k] = true)) (fun i _ => t.size - (intOf i).toNat)
            case atStart => exact ⟨rfl, 0, by omega, by simp, Lib.hid fun k h hk => by omega⟩
            case round =>
              obtain ⟨rfl, x, hx, rfl, hsg⟩ := hrel
              by_cases hxl : x < t.size
              · have hxl2 : (x : Int) < (t.size : Int) := by omega
                have hnext : isSgn t[x] = true → Hid (∀ (k : Nat) (h : k < t.size), k < x + 1 → isSgn t[k] = true) := fun hc => Lib.hid fun k h hk => by
                  rcases Nat.lt_or_ge k x with h1 | h1
                  · exact hsg.out k h h1
                  · obtain rfl : k = x := by omega
                    exact hc
                have HNX := Lib.hid hnext
                clear hnext
                by_cases e1 : (t[x].toNat : Int) = 111
                · have hB1 : ((t[x].toNat : Int) != 111) = false := by simpa using e1
                  have HS2 := Lib.hid (HNX.out ((sg_of t[x]).2 (fun h => h.1 e1)))
                  clear e1
                  go_wp2
                  go_roundw
                  case rel => exact ⟨trivial, x + 1, by omega, by go_num, HS2.out⟩
                  case measure => simp [intOf]; omega
                · have hB1 : ((t[x].toNat : Int) != 111) = true := by simpa using e1
                  by_cases e2 : (t[x].toNat : Int) = 46
                  · have hB2 : ((t[x].toNat : Int) != 46) = false := by simpa using e2
                    have HS2 := Lib.hid (HNX.out ((sg_of t[x]).2 (fun h => h.2 e2)))
                    clear e1 e2
                    go_wp2
                    go_roundw
                    case rel => exact ⟨trivial, x + 1, by omega, by go_num, HS2.out⟩
                    case measure => simp [intOf]; omega
                  · have hB2 : ((t[x].toNat : Int) != 46) = true := by simpa using e2
                    have hns : isSgn t[x] = false := by
                      cases hs : isSgn t[x]
                      · rfl
                      · exact absurd ⟨e1, e2⟩ ((sg_of t[x]).1 hs)
                    have hno : rowsOk R = false := HBJ.out (by
                      have hg := HTG.out x hxl
                      unfold okRow
                      have hall : r.all isSgn = false := by
                        rw [List.all_eq_false]
                        have hlx : x < r.length := by have := HTS.out; omega
                        rw [List.getElem?_eq_getElem hlx] at hg
                        exact ⟨t[x], by rw [← Option.some.inj hg]; exact List.getElem_mem hlx, by rw [hns]; simp⟩
                      rw [hall, Bool.and_false])
                    have HNO := Lib.hid hno
                    clear e1 e2 hns hno
                    go_wp2_with fail
                    go_ret2
                    rw [hQ.out]
                    exact ⟨.inr ⟨HNO.out, rfl⟩, HB.out⟩
              · obtain rfl : x = t.size := by omega
                have hok2 : Hid (∀ k, k < j + 1 → okRow W (R.getD k []) = true) := Lib.hid fun k hk => by
                  rcases Nat.lt_or_ge k j with h1 | h1
                  · exact hok.out k h1
                  · obtain rfl : k = j := by omega
                    rw [HRJ.out]
                    unfold okRow
                    have hl : r.length = W := by
                      have := HTS.out
                      have := HSZ.out
                      have := HWZ.out
                      omega
                    rw [hl]
                    simp only [decide_true, Bool.true_and, List.all_eq_true]
                    intro c hc
                    obtain ⟨y, hy, rfl⟩ := List.getElem_of_mem hc
                    have hyt : y < t.size := by have := HTS.out; omega
                    have hg := HTG.out y hyt
                    rw [List.getElem?_eq_getElem hy] at hg
                    rw [Option.some.inj hg]
                    exact hsg.out y hyt hyt
                go_wp2
                go_roundw
                case rel => exact ⟨trivial, j + 1, by omega, by go_num, hok2⟩
                case measure => simp [intOf]; omega
          · have hB : ((t.size : Int) != (t0.size : Int)) = true := by
              have : ¬ (t.size : Int) = (t0.size : Int) := by omega
              simpa using this
            have hno : rowsOk R = false := HBJ.out (by
              unfold okRow
              have : ¬ r.length = W := by
                have := HTS.out
                have := HWZ.out
                omega
              simp [this])
            have HNO := Lib.hid hno
            clear hsz hno
            go_wp2_with fail
            go_ret2
            rw [hQ.out]
            exact ⟨.inr ⟨HNO.out, rfl⟩, HB.out⟩
        · obtain rfl : j = n := by omega
          have HYES := Lib.hid (HALL.out hok.out)
          go_wp2
          go_ret2
          rw [hQ.out]
          exact ⟨.inl ⟨HYES.out, _, c, rfl, HR.out⟩, HB.out⟩
theorem doRows_any (s : ByteArray) (w : World) (hs : s.size ≤ 10000000) :
    Calls Tryd.prog 45 #[.string s] w (DoQ (parts s.data.toList 47) w) := by
  by_cases h6 : 600 < s.size
  · have hno : rowsOk (parts s.data.toList 47) = false := by
      cases hp : rowsOk (parts s.data.toList 47)
      · rfl
      · have := pic_600 (l := s.data.toList) hp
        simp at this
        omega
    have HN := Lib.hid hno
    have h62 : (600 : Int) < (s.size : Int) := by omega
    clear hno h6
    go_enter Tryd.func45, Tryd.ntmps45
    go_wp2
    go_ret2
    exact ⟨.inr ⟨HN.out, rfl⟩, Below.refl _ _⟩
  · have hPb := parts_len s.data.toList 47
    exact doRows_of s _ w (by omega) hPb.1 (by have := hPb.2; simp at this; omega) fun W => l1Split_any s W (by omega)
end Go.Proofs.YtbcgidgjdedkiaaDoor
/- Chapter 7: the specification's texts of rows, dots counted; the laws IsPicture, CountDots, SizeOfPicture. -/
namespace Go.Proofs.YtbcgidgjdedkiaaDoor
open Go.ChangeShapes Go.WideShapes Go.ChangeAt Go.RowKit

theorem cat7 (x y : ByteArray) (h : x.size + y.size ≤ 1000000) (W : World) : (Op.stringOp .add x y).run Tryd.prog W = .ok (.string (x ++ y)) W := run_string_add_sum W x y (by omega)
theorem slash_app (a r : List UInt8) : bt a ++ (⟨#[47]⟩ ++ bt r) = bt (a ++ (47 :: r)) := by
  rw [show (⟨#[47]⟩ : ByteArray) = bt [47] from rfl, bt_app, bt_app]
  rfl
theorem joinP_take (R : List (List UInt8)) (j : Nat) (h1 : 1 ≤ j) (h : j < R.length) : joinP 47 (R.take (j + 1)) = joinP 47 (R.take j) ++ (47 :: R.getD j []) := by
  have hne : R.take j ≠ [] := by
    intro e
    have := congrArg List.length e
    rw [List.length_take] at this
    simp only [List.length_nil] at this
    omega
  rw [List.take_succ_eq_append_getElem h, joinP_snoc _ _ _ hne]
  simp [List.getD, h]
theorem joinP_le (R : List (List UInt8)) (hr : ∀ r ∈ R, r.length ≤ 100) (j : Nat) : (joinP 47 (R.take j)).length ≤ j * 101 := by
  induction j with
  | zero => simp [joinP]
  | succ j ih =>
    rcases Nat.lt_or_ge j R.length with h | h
    · rcases Nat.eq_zero_or_pos j with rfl | hj
      · cases R with
        | nil => simp at h
        | cons r rs =>
          have := hr r (by simp)
          simp [joinP]
          omega
      · rw [joinP_take R j hj h]
        have : (R.getD j []).length ≤ 100 := by
          have e : R.getD j [] = R[j] := by simp [List.getD, h]
          rw [e]
          exact hr _ (List.getElem_mem h)
        rw [List.length_append, List.length_cons]
        omega
    · rw [List.take_of_length_le (by omega)]
      rw [List.take_of_length_le (by omega)] at ih
      omega
set_option maxRecDepth 4000 in
set_option maxHeartbeats 800000 in
theorem doText_any (g o n c : Nat) (R : List (List UInt8)) (w : World) (hn : n = R.length) (h1 : 1 ≤ n) (h2 : n ≤ 1000) (hnc : n ≤ c) (hr : ∀ r ∈ R, r.length ≤ 100)
    (hC : ∀ j : Nat, j < n → w.cell? ⟨g, o + j, none⟩ = some (.string (bt (R.getD j [])))) :
    Calls Tryd.prog 48 #[.slice (some ⟨g, o, none⟩) n c] w fun e w' => e = .returned (.string (bt (joinP 47 R))) ∧ w = w' := by
  have HC := Lib.hid hC
  have c0 : w.cell? ⟨g, o, none⟩ = some (.string (bt (R.getD 0 []))) := hC 0 (by omega)
  have HJ := Lib.hid fun j (a : 1 ≤ j) (b : j < n) => joinP_take R j a (by omega)
  have HL := Lib.hid fun j => joinP_le R hr j
  have HF : Hid (joinP 47 (R.take n) = joinP 47 R) := Lib.hid (by rw [List.take_of_length_le (by omega)])
  have H1 : Hid (R.getD 0 [] = joinP 47 (R.take 1)) := Lib.hid (by
    cases R with
    | nil => simp [joinP]
    | cons r rs => simp [joinP])
  have HRL : Hid (∀ j, j < n → (R.getD j []).length ≤ 100) := Lib.hid fun j hj => by
    have hjl : j < R.length := by omega
    have e : R.getD j [] = R[j] := by simp [List.getD, hjl]
    rw [e]
    exact hr _ (List.getElem_mem hjl)
  rw [H1.out] at c0
  clear hC hr hn H1
  have h10 : (1 : Int) ≤ (n : Int) := by omega
  have h11 : (0 : Int) < (n : Int) := by omega
  by_cases hn1 : n = 1
  · subst hn1
    rw [HF.out] at c0
    go_enter Tryd.func48, Tryd.ntmps48
    go_wp2_with fail
    all_goals
      go_loopw [12, 3] (fun i v wr => wr = w ∧ i = .int .i64 0 ∧ v = .string (bt (joinP 47 R))) (fun _ _ _ => 0)
      case atStart => exact ⟨rfl, by simp, rfl⟩
      case round =>
        obtain ⟨rfl, rfl, rfl⟩ := hrel
        go_wp2
        go_ret
        exact ⟨rfl, rfl⟩
  · have hc1 : ¬ c = 1 := by omega
    have hl : IntKind.i64.wrap ((n : Int) - 1) = (n : Int) - 1 := IntWalk.i64_in _ (by omega)
    go_enter Tryd.func48, Tryd.ntmps48
    go_wp2_with fail
    go_loopw [12, 3] (fun i v wr => wr = w ∧ ∃ j : Nat, j ≤ n - 1 ∧ i = .int .i64 (j : Int) ∧ v = .string (bt (joinP 47 (R.take (j + 1))))) (fun i _ _ => n - (intOf i).toNat)
    case atStart => exact ⟨rfl, 0, by omega, by simp, by simp⟩
    case round =>
      obtain ⟨rfl, j, hj, rfl, rfl⟩ := hrel
      by_cases hlt : j < n - 1
      · have hlt2 : (j : Int) < ((n - 1 : Nat) : Int) := by omega
        have cj := HC.out (j + 1) (by omega)
        have e1 := HJ.out (j + 1) (by omega) (by omega)
        have l1 := HL.out (j + 1)
        have l2 := HRL.out (j + 1) (by omega)
        generalize joinP 47 (R.take (j + 1)) = acc at *
        generalize R.getD (j + 1) [] = r at *
        have k1 := cat7 ⟨#[47]⟩ (bt r) (by simp [bt, ByteArray.size]; omega)
        have k2 := cat7 (bt acc) (⟨#[47]⟩ ++ bt r) (by simp [bt, ByteArray.size]; omega)
        rw [slash_app, ← e1] at k2
        have HE := Lib.hid e1
        clear e1 l1 l2
        have cj2 : wr.cell? ⟨g, o + 1 + j, none⟩ = some (.string (bt r)) := by rw [show o + 1 + j = o + (j + 1) by omega]; exact cj
        go_wp2
        go_roundw
        case rel => exact ⟨trivial, j + 1, by omega, by go_num, rfl⟩
        case measure => simp [intOf]; omega
      · obtain rfl : j = n - 1 := by omega
        have e : R.take (n - 1 + 1) = R.take n := by rw [show n - 1 + 1 = n by omega]
        rw [e, HF.out]
        go_wp2
        go_ret
        exact ⟨rfl, rfl⟩
theorem doDots_any (s : ByteArray) (w : World) (hs : s.size ≤ 1000000) :
    Calls Tryd.prog 47 #[.string s] w fun e w' => e = .returned (.int .i64 (cntB s.data.toList : Int)) ∧ w = w' := by
  have HS := Lib.hid fun k (h : k < s.data.toList.length) => cntB_succ s.data.toList k h
  have HG := Lib.hid fun k (h : k < s.size) => ba_get s k h
  have HL : Hid (∀ k, k ≤ s.size → cntB (s.data.toList.take k) ≤ 1000000) := Lib.hid fun k hk => by
    have := cntB_le (s.data.toList.take k)
    rw [List.length_take] at this
    omega
  have HF : Hid (s.data.toList.take s.size = s.data.toList) := Lib.hid (List.take_of_length_le (by simp))
  go_enter Tryd.func47, Tryd.ntmps47
  go_wp2
  go_loopw [3, 4] (fun v i wr => wr = w ∧ ∃ k : Nat, k ≤ s.size ∧ i = .int .i64 (k : Int) ∧ v = .int .i64 (cntB (s.data.toList.take k) : Int)) (fun _ i _ => s.size - (intOf i).toNat)
  case atStart => exact ⟨rfl, 0, by omega, by simp, by simp [cntB]⟩
  case round =>
    obtain ⟨rfl, k, hk, rfl, rfl⟩ := hrel
    by_cases hlt : k < s.size
    · have hlt2 : (k : Int) < (s.size : Int) := by omega
      have hkl : k < s.data.toList.length := by simpa using hlt
      have h1 := HS.out k hkl
      have hg := HG.out k hlt
      rw [List.getElem?_eq_getElem hkl] at hg
      rw [Option.some.inj hg] at h1
      have hl := HL.out k hk
      have hl2 := HL.out (k + 1) hlt
      generalize cntB (s.data.toList.take k) = a at *
      generalize hb2 : cntB (s.data.toList.take (k + 1)) = b at *
      have HB2 := Lib.hid hb2
      clear hb2
      by_cases hc : s[k] = 111
      · have hB : ((s[k].toNat : Int) == 111) = true := by rw [hc]; rfl
        have hb : b = a + 1 := by rw [h1, hc]; rfl
        have HB := Lib.hid hb
        clear h1 hg hc hb
        go_wp2
        go_roundw
        case rel => exact ⟨trivial, k + 1, by omega, by go_num, by rw [HB2.out, HB.out]; go_num⟩
        case measure => simp [intOf]; omega
      · have hB : ((s[k].toNat : Int) == 111) = false := by
          have : ¬ s[k].toNat = 111 := fun e => hc (UInt8.toNat_inj.1 e)
          simp
          omega
        have hb : b = a := by
          rw [h1]
          have : (s[k] == 111) = false := by simpa using hc
          rw [this]
          rfl
        have HB := Lib.hid hb
        clear h1 hg hc hb
        go_wp2
        go_roundw
        case rel => exact ⟨trivial, k + 1, by omega, by go_num, by rw [HB2.out, HB.out]⟩
        case measure => simp [intOf]; omega
    · obtain rfl : k = s.size := by omega
      rw [HF.out]
      go_wp2
      go_ret
      exact ⟨rfl, rfl⟩
/-- IsPicture, CountDots, SizeOfPicture, by the specification. -/
theorem spec_IsPicture (s : ByteArray) (w : World) (hs : s.size ≤ 10000000) :
    Calls Tryd.prog 15 #[.string s] w fun e w' => e = .returned (.bool (isPic s.data.toList)) ∧ Below w.heap.size w w' := by
  have HR := Lib.hid fun W => doRows_any s W hs
  have HP : Hid (isPic s.data.toList = rowsOk (parts s.data.toList 47)) := Lib.hid rfl
  rw [HP.out]
  clear HP
  generalize parts s.data.toList 47 = R at *
  cases hr : rowsOk R
  · have HO := Lib.hid hr
    clear hr
    go_enter Tryd.func15, Tryd.ntmps15
    go_wp2_with (go_at_call 45; refine (HR.out _).mono ?_; rintro e w1 ⟨h1, hb1⟩; obtain ⟨h2, _⟩ | ⟨_, rfl⟩ := h1; (rw [HO.out] at h2; cases h2))
    go_ret
    exact ⟨rfl, hb1⟩
  · have HO := Lib.hid hr
    clear hr
    go_enter Tryd.func15, Tryd.ntmps15
    go_wp2_with (go_at_call 45; refine (HR.out _).mono ?_; rintro e w1 ⟨h1, hb1⟩; obtain ⟨_, A, c, rfl, hrow⟩ | ⟨h2, _⟩ := h1; rotate_left; (rw [HO.out] at h2; cases h2))
    go_ret
    exact ⟨rfl, hb1⟩
end Go.Proofs.YtbcgidgjdedkiaaDoor
/- Chapter 7: rows of a picture in memory; CountDots, SizeOfPicture, by the specification. -/
namespace Go.Proofs.YtbcgidgjdedkiaaDoor
open Go.ChangeShapes Go.WideShapes Go.ChangeAt Go.RowKit

/-- Texts that lie in a block of their own. -/
structure RowsAt (w : World) (lo g n : Nat) (R : List (List UInt8)) : Prop where
  cell : ∀ j, j < n → w.cell? ⟨g, j, none⟩ = some (.string (bt (R.getD j [])))
  lo : lo ≤ g
  hi : g < w.heap.size
  n : n = R.length
theorem RowsAt.under {w W : World} {lo g n k : Nat} {R : List (List UInt8)} (h : RowsAt w lo g n R) (hb : Below k w W) (hk : g < k) : RowsAt W lo g n R :=
  ⟨fun j hj => (hb.cell (p := ⟨g, j, none⟩) hk).trans (h.cell j hj), h.lo, Nat.lt_of_lt_of_le h.hi hb.size, h.n⟩
theorem RowsAt.below {w W : World} {lo g n : Nat} {R : List (List UInt8)} (h : RowsAt w lo g n R) (hb : Below w.heap.size w W) : RowsAt W lo g n R := h.under hb h.hi
theorem rows_of_row {w : World} {lo : Nat} {V : Value} {R : List (List UInt8)} (h : w.ownsRow lo 9 1 V R.length (strs R)) (h1 : 1 ≤ R.length) :
    ∃ g c, V = .slice (some ⟨g, 0, none⟩) R.length c ∧ R.length ≤ c ∧ RowsAt w lo g R.length R := by
  have hh := h
  rcases h.2 with ⟨_, h0⟩ | ⟨g, c, cur, rfl, hlo, hcell, hc, hmax, hsz, htk⟩
  · omega
  · refine ⟨g, c, rfl, hc, fun j hj => ?_, hlo, (hh.lt g rfl).2, rfl⟩
    obtain ⟨g', o', hA, _, _, q, _⟩ := (own_of_row hh).at_ (k := j) (by rw [strs_len]; exact hj)
    obtain ⟨rfl, rfl⟩ : g = g' ∧ 0 = o' := by simpa using hA
    rw [Nat.zero_add] at q
    rw [q]
    simp [strs, List.getD, hj]
theorem doRows_yes (s : ByteArray) (w : World) (hs : s.size ≤ 10000000) (h : isPic s.data.toList = true) :
    Calls Tryd.prog 45 #[.string s] w fun e w' => ∃ g c, e = .returned (.tuple #[.slice (some ⟨g, 0, none⟩) (pH s.data.toList) c, .bool true]) ∧ pH s.data.toList ≤ c ∧ RowsAt w' w.heap.size g (pH s.data.toList) (parts s.data.toList 47) ∧ Below w.heap.size w w' := by
  refine (doRows_any s w hs).mono ?_
  rintro e w' ⟨⟨_, A, c, rfl, hrow⟩ | ⟨h2, _⟩, hb⟩
  · obtain ⟨g, c', hV, hc, hr⟩ := rows_of_row hrow (pic_b h).h0
    rw [hV]
    exact ⟨g, c', rfl, hc, hr, hb⟩
  · have : isPic s.data.toList = false := h2
    rw [h] at this
    cases this
theorem doRows_no (s : ByteArray) (w : World) (hs : s.size ≤ 10000000) (h : isPic s.data.toList = false) :
    Calls Tryd.prog 45 #[.string s] w fun e w' => e = .returned (.tuple #[.slice none 0 0, .bool false]) ∧ Below w.heap.size w w' := by
  refine (doRows_any s w hs).mono ?_
  rintro e w' ⟨⟨h2, _⟩ | ⟨_, rfl⟩, hb⟩
  · have : isPic s.data.toList = true := h2
    rw [h] at this
    cases this
  · exact ⟨rfl, hb⟩
theorem spec_CountDots_no (s : ByteArray) (w : World) (hs : s.size ≤ 10000000) (h : isPic s.data.toList = false) :
    Calls Tryd.prog 17 #[.string s] w fun e w' => e = .returned (.tuple #[.int .i64 0, .bool false]) ∧ Below w.heap.size w w' := by
  have HR := Lib.hid fun W => spec_IsPicture s W (by omega)
  rw [h] at HR
  clear h
  go_enter Tryd.func17, Tryd.ntmps17
  go_wp2_with (go_at_call 15; refine (HR.out _).mono ?_; rintro e w1 ⟨rfl, hb1⟩)
  go_ret2
  exact ⟨rfl, hb1⟩
theorem spec_CountDots_yes (s : ByteArray) (w : World) (hs : s.size ≤ 10000000) (h : isPic s.data.toList = true) :
    Calls Tryd.prog 17 #[.string s] w fun e w' => e = .returned (.tuple #[.int .i64 (cntB s.data.toList : Int), .bool true]) ∧ Below w.heap.size w w' := by
  have HR := Lib.hid fun W => spec_IsPicture s W (by omega)
  rw [h] at HR
  have hsz : s.size ≤ 600 := by
    have h6 := pic_600 h
    rw [show s.data.toList.length = s.size by simp] at h6
    exact h6
  have HD := Lib.hid fun W => doDots_any s W (by omega)
  clear h
  generalize cntB s.data.toList = k at *
  go_enter Tryd.func17, Tryd.ntmps17
  go_wp2_with (first
    | (go_at_call 15; refine (HR.out _).mono ?_; rintro e w1 ⟨rfl, hb1⟩)
    | (go_at_call 47; refine (HD.out _).mono ?_; rintro e w2 ⟨rfl, rfl⟩))
  go_ret2
  exact ⟨rfl, hb1⟩
theorem spec_SizeOfPicture_no (s : ByteArray) (w : World) (hs : s.size ≤ 10000000) (h : isPic s.data.toList = false) :
    Calls Tryd.prog 19 #[.string s] w fun e w' => e = .returned (.tuple #[.int .i64 0, .int .i64 0, .bool false]) ∧ Below w.heap.size w w' := by
  have HR := Lib.hid fun W => doRows_no s W (by omega) h
  clear h
  go_enter Tryd.func19, Tryd.ntmps19
  go_wp2_with (go_at_call 45; refine (HR.out _).mono ?_; rintro e w1 ⟨rfl, hb1⟩)
  go_ret3
  exact ⟨rfl, hb1⟩
theorem spec_SizeOfPicture_yes (s : ByteArray) (w : World) (hs : s.size ≤ 10000000) (h : isPic s.data.toList = true) :
    Calls Tryd.prog 19 #[.string s] w fun e w' => e = .returned (.tuple #[.int .i64 (pW s.data.toList : Int), .int .i64 (pH s.data.toList : Int), .bool true]) ∧ Below w.heap.size w w' := by
  have HR := Lib.hid fun W => doRows_yes s W (by omega) h
  have h0 := (pic_b h).h0
  have hW : Hid ((bt ((parts s.data.toList 47).getD 0 [])).size = pW s.data.toList) := Lib.hid (by
    rw [bt_size]
    unfold pW
    cases parts s.data.toList 47 <;> rfl)
  clear h
  generalize pW s.data.toList = W at *
  generalize pH s.data.toList = n at *
  generalize parts s.data.toList 47 = R at *
  have hn : (0 : Int) < (n : Int) := by omega
  obtain ⟨t, ht⟩ : ∃ t, t = bt (R.getD 0 []) := ⟨_, rfl⟩
  rw [← ht] at hW
  have HT := Lib.hid ht
  clear ht
  go_enter Tryd.func19, Tryd.ntmps19
  go_wp2_with (go_at_call 45; refine (HR.out _).mono ?_; rintro e w1 ⟨g, c, rfl, hnc, hr, hb1⟩; have c0 := hr.cell 0 (by omega); rw [← HT.out] at c0)
  go_ret3
  refine ⟨?_, hb1⟩
  rw [hW.out]
  rfl
end Go.Proofs.YtbcgidgjdedkiaaDoor
