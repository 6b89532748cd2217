/- Chapter 7: the shapes' pictures, by the program: what draws them. -/
import Derived.Test.YtbabkcjnfdpafaaGreatDoorMd
import Derived.Test.YtbabkcjnfdpafaaGreatDoorDuO
import Derived.Test.YtbabkcjnfdpafaaGreatDoorMc
namespace Go.Proofs.YtbabkcjnfdpafaaGreatDoor
open Go.ChangeShapes Go.WideShapes Go.ChangeAt Go.RowKit Go.Maps

set_option maxRecDepth 16000 in
theorem size_any (x : Int) (w : World) (h0 : -1000 ≤ x) (h1 : x ≤ 1000) :
    Calls Tryz.prog 48 #[.int .i64 x] w fun e w' => e = .returned (.int .i64 (far0 x)) ∧ w = w' := by
  have e1 : IntKind.i64.wrap (-x) = -x := IntWalk.i64_in _ (by omega)
  go_enter Tryz.func48, Tryz.ntmps48
  go_wp2
  go_ret
  exact ⟨rfl, rfl⟩
set_option maxRecDepth 16000 in
theorem square_any (k : Nat) (n : Int) (hn : n = k) (F : Nat) (first cap : Array Value) (f : Int → Int → Bool) (w : World) (hf : Dw F first cap f k k w) (k0 : 1 ≤ k) (k1 : k ≤ 50) :
    Calls Tryz.prog 40 #[.int .i64 n, .func (.func F) first cap] w fun e w' => e = .returned (.string (bt (sT k k (fun x y => inP k k x y && f x y)))) ∧ Below w.heap.size w w' := by
  subst hn
  have HD := Lib.hid (draw_any k k (k * k) F first cap f w hf rfl k0 k1 k1)
  have HT := Lib.hid fun c V (h : Ds V c (fun x y => inP k k x y && f x y)) => text_any k k (k * k) c _ V h rfl k0 k1 k1
  clear hf
  go_enter Tryz.func40, Tryz.ntmps40
  go_wp2_with (first
    | (go_at_call 80; refine (HD.out).mono ?_; rintro e w1 ⟨⟨c, rfl, _, hd⟩, hb1⟩)
    | (go_at_call 75; refine (HT.out c _ hd).mono ?_; rintro e w2 ⟨rfl, hb2⟩))
  go_ret
  exact ⟨rfl, hb1.trans (hb2.mono hb1.size)⟩
/-- What draws by places from -R to R. -/
structure Dz (G : Nat) (first cap : Array Value) (g : Int → Int → Bool) (R : Int) (w : World) : Prop where
  cf : ∀ (args : Array Value) (V : World), (callFunc G args).run Tryz.prog V = .ok (.enter G args) V
  dz : ∀ (x y : Int) (V : World), -R ≤ x ∧ x ≤ R ∧ -R ≤ y ∧ y ≤ R → w.grownBy V none → Calls Tryz.prog G (first ++ (#[.int .i64 x, .int .i64 y] ++ cap)) V fun e w' => e = .returned (.bool (g x y)) ∧ Below V.heap.size V w'
set_option maxRecDepth 16000 in
theorem cf_middled1 : ∀ (args : Array Value) (V : World), (callFunc 82 args).run Tryz.prog V = .ok (.enter 82 args) V := fun _ _ => by kernel_rfl
set_option maxRecDepth 16000 in
theorem middled1_any (G : Nat) (first cap : Array Value) (g : Int → Int → Bool) (R : Int) (w V : World) (hg : Dz G first cap g R w) (a b : Nat) (ha : V.cell? ⟨a, 0, none⟩ = some (.func (.func G) first cap)) (hb : V.cell? ⟨b, 0, none⟩ = some (.int .i64 R)) (hV : w.grownBy V none) (x y : Int) (R1 : R ≤ 1000) (h : 0 ≤ x ∧ x ≤ 2 * R ∧ 0 ≤ y ∧ y ≤ 2 * R) :
    Calls Tryz.prog 82 #[.int .i64 x, .int .i64 y, .pointer (some ⟨a, 0, none⟩), .pointer (some ⟨b, 0, none⟩)] V fun e w' => e = .returned (.bool (g (x - R) (y - R))) ∧ Below V.heap.size V w' := by
  have hcf := hg.cf
  have HG := Lib.hid (hg.dz (x - R) (y - R) V (by omega) hV)
  have e1 : IntKind.i64.wrap (x - R) = x - R := IntWalk.i64_in _ (by omega)
  have e2 : IntKind.i64.wrap (y - R) = y - R := IntWalk.i64_in _ (by omega)
  clear hg
  go_enter Tryz.func82, Tryz.ntmps82
  go_wp2_with (refine (HG.out).mono ?_; rintro e w1 ⟨rfl, hb1⟩)
  go_ret
  exact ⟨rfl, hb1⟩
set_option maxRecDepth 16000 in
theorem middled_any (k : Nat) (G : Nat) (first cap : Array Value) (g : Int → Int → Bool) (w : World) (hg : Dz G first cap g ((k : Int) - 1) w) (k0 : 1 ≤ k) (k1 : k ≤ 12) :
    Calls Tryz.prog 46 #[.int .i64 (k : Int), .func (.func G) first cap] w fun e w' => e = .returned (.string (bt (sT (2 * k - 1) (2 * k - 1) (fun x y => inP (2 * k - 1) (2 * k - 1) x y && g (x - ((k : Int) - 1)) (y - ((k : Int) - 1)))))) ∧ Below w.heap.size w w' := by
  obtain ⟨V, hV⟩ : ∃ V, V = (w.alloc (.cells #[.func (.func G) first cap] 50)).alloc (.cells #[.int .i64 ((k : Int) - 1)] 3) := ⟨_, rfl⟩
  have q0 : V.cell? ⟨w.heap.size, 0, none⟩ = some (.func (.func G) first cap) := by rw [hV]; simp [go_sem]
  have q1 : V.cell? ⟨w.heap.size + 1, 0, none⟩ = some (.int .i64 ((k : Int) - 1)) := by rw [hV]; simp [go_sem]
  have hgV : w.grownBy V none := by rw [hV]; exact (World.grownBy_alloc w _ none).andThen (World.grownBy_alloc _ _ none) (by simp)
  have HB : Hid (Below w.heap.size w V) := Lib.hid (by rw [hV]; exact ((Below.refl _ _).alloc (Nat.le_refl _) _).alloc (by simp) _)
  have HS := Lib.hid (square_any (2 * k - 1) ((k : Int) + ((k : Int) - 1)) (by omega) 82 #[] #[.pointer (some ⟨w.heap.size, 0, none⟩), .pointer (some ⟨w.heap.size + 1, 0, none⟩)] (fun x y => g (x - ((k : Int) - 1)) (y - ((k : Int) - 1))) V
    { cf := cf_middled1
      dw := fun x y V' hxy hV' => middled1_any G first cap g ((k : Int) - 1) w V' hg w.heap.size (w.heap.size + 1) (hV'.cell q0 (by simp)) (hV'.cell q1 (by simp)) (hgV.andThen hV' (by simp)) x y (by omega) (by omega) } (by omega) (by omega))
  have e1 : IntKind.i64.wrap ((k : Int) - 1) = (k : Int) - 1 := IntWalk.i64_in _ (by omega)
  have e2 : IntKind.i64.wrap ((k : Int) + ((k : Int) - 1)) = (k : Int) + ((k : Int) - 1) := IntWalk.i64_in _ (by omega)
  rw [hV] at HS HB
  clear hg q0 q1 hgV hV
  go_enter Tryz.func46, Tryz.ntmps46
  go_wp2_with (go_at_call 40; refine (HS.out).mono ?_; rintro e w1 ⟨rfl, hb1⟩)
  go_ret
  exact ⟨rfl, HB.out.trans (hb1.mono HB.out.size)⟩
set_option maxRecDepth 16000 in
theorem side_any (k : Int) (w : World) : Calls Tryz.prog 39 #[.int .i64 k] w fun e w' => e = .returned (.bool (betr k 1 24)) ∧ w = w' := by
  go_enter Tryz.func39, Tryz.ntmps39
  go_wp2_with (go_at_call 79; refine (rwithin_any _ _ _ _).mono ?_; rintro e w1 ⟨rfl, rfl⟩)
  go_ret
  exact ⟨rfl, rfl⟩
set_option maxRecDepth 16000 in
theorem mid_any (k : Int) (w : World) : Calls Tryz.prog 45 #[.int .i64 k] w fun e w' => e = .returned (.bool (betr k 1 12)) ∧ w = w' := by
  go_enter Tryz.func45, Tryz.ntmps45
  go_wp2_with (go_at_call 79; refine (rwithin_any _ _ _ _).mono ?_; rintro e w1 ⟨rfl, rfl⟩)
  go_ret
  exact ⟨rfl, rfl⟩
theorem cf_triangle1 : ∀ (args : Array Value) (V : World), (callFunc 41 args).run Tryz.prog V = .ok (.enter 41 args) V := fun _ _ => by kernel_rfl
theorem cf_square1 : ∀ (args : Array Value) (V : World), (callFunc 44 args).run Tryz.prog V = .ok (.enter 44 args) V := fun _ _ => by kernel_rfl
theorem cf_gnomon1 : ∀ (args : Array Value) (V : World), (callFunc 50 args).run Tryz.prog V = .ok (.enter 50 args) V := fun _ _ => by kernel_rfl
set_option maxRecDepth 16000 in
theorem cf_diamond1 : ∀ (args : Array Value) (V : World), (callFunc 47 args).run Tryz.prog V = .ok (.enter 47 args) V := fun _ _ => by kernel_rfl
set_option maxRecDepth 16000 in
theorem cf_hexagon1 : ∀ (args : Array Value) (V : World), (callFunc 49 args).run Tryz.prog V = .ok (.enter 49 args) V := fun _ _ => by kernel_rfl
set_option maxRecDepth 16000 in
theorem triangle1_any (x y : Int) (V : World) :
    Calls Tryz.prog 41 #[.int .i64 x, .int .i64 y] V fun e w' => e = .returned (.bool (decide (x ≤ y))) ∧ Below V.heap.size V w' := by
  go_enter Tryz.func41, Tryz.ntmps41
  go_wp2
  go_ret
  exact ⟨rfl, Below.refl _ _⟩
set_option maxRecDepth 16000 in
theorem square1_any (x y : Int) (V : World) :
    Calls Tryz.prog 44 #[.int .i64 x, .int .i64 y] V fun e w' => e = .returned (.bool true) ∧ Below V.heap.size V w' := by
  go_enter Tryz.func44, Tryz.ntmps44
  go_wp2
  go_ret
  exact ⟨rfl, Below.refl _ _⟩
set_option maxRecDepth 16000 in
theorem gnomon1_any (k b : Nat) (x y : Int) (V : World) (hb : V.cell? ⟨b, 0, none⟩ = some (.int .i64 (k : Int))) (hk : k ≤ 50) :
    Calls Tryz.prog 50 #[.int .i64 x, .int .i64 y, .pointer (some ⟨b, 0, none⟩)] V fun e w' => e = .returned (.bool (decide (max x y = (k : Int) - 1))) ∧ Below V.heap.size V w' := by
  have e1 : IntKind.i64.wrap ((k : Int) - 1) = (k : Int) - 1 := IntWalk.i64_in _ (by omega)
  go_enter Tryz.func50, Tryz.ntmps50
  go_wp2
  go_ret
  exact ⟨by congr 2, Below.refl _ _⟩
set_option maxRecDepth 16000 in
theorem diamond1_any (k b : Nat) (x y : Int) (V : World) (hb : V.cell? ⟨b, 0, none⟩ = some (.int .i64 (k : Int))) (hx : -100 ≤ x ∧ x ≤ 100 ∧ -100 ≤ y ∧ y ≤ 100) :
    Calls Tryz.prog 47 #[.int .i64 x, .int .i64 y, .pointer (some ⟨b, 0, none⟩)] V fun e w' => e = .returned (.bool (decide (far0 x + far0 y < (k : Int)))) ∧ Below V.heap.size V w' := by
  have HX := Lib.hid fun w => size_any x w (by omega) (by omega)
  have HY := Lib.hid fun w => size_any y w (by omega) (by omega)
  have e1 : IntKind.i64.wrap (far0 x + far0 y) = far0 x + far0 y := IntWalk.i64_in _ (by unfold far0; omega)
  generalize far0 x = fx at *
  generalize far0 y = fy at *
  go_enter Tryz.func47, Tryz.ntmps47
  go_wp2
  go_quiet (first
    | (go_at_call 48; refine (HX.out _).mono ?_; rintro e w' ⟨rfl, rfl⟩; exact ⟨rfl, _, rfl⟩)
    | (go_at_call 48; refine (HY.out _).mono ?_; rintro e w' ⟨rfl, rfl⟩; exact ⟨rfl, _, rfl⟩))
  go_wp2
  go_ret
  exact ⟨rfl, below_drewN (Below.refl _ _) _⟩
set_option maxRecDepth 16000 in
theorem hexagon1_any (k b : Nat) (x y : Int) (V : World) (hb : V.cell? ⟨b, 0, none⟩ = some (.int .i64 (k : Int))) (hx : -100 ≤ x ∧ x ≤ 100 ∧ -100 ≤ y ∧ y ≤ 100) :
    Calls Tryz.prog 49 #[.int .i64 x, .int .i64 y, .pointer (some ⟨b, 0, none⟩)] V fun e w' => e = .returned (.bool (decide (far0 (x + y) < (k : Int)))) ∧ Below V.heap.size V w' := by
  have HX := Lib.hid fun w => size_any (x + y) w (by omega) (by omega)
  have e1 : IntKind.i64.wrap (x + y) = x + y := IntWalk.i64_in _ (by omega)
  generalize far0 (x + y) = fx at *
  go_enter Tryz.func49, Tryz.ntmps49
  go_wp2
  go_quiet (first
    | (go_at_call 48; refine (HX.out _).mono ?_; rintro e w' ⟨rfl, rfl⟩; exact ⟨rfl, _, rfl⟩))
  go_wp2
  go_ret
  exact ⟨rfl, below_drewN (Below.refl _ _) _⟩
end Go.Proofs.YtbabkcjnfdpafaaGreatDoor
