/- JourOpen, JourSmall, JourMath, JourMath2: our own definitions and contracts; no statement of the seat is proved here. -/
import Derived.Test.YtflfiobicapopaaBase12
namespace Go.Proofs.Ytflfiobicapopaa
open Go.RowKit

/-- The head that Open saves. -/
def HeadD.later (h : HeadD) : HeadD := ⟨h.s, (h.e + 1) % 18446744073709551616, h.l⟩
/-- What Open does to the disk whose head is h, and whose live segment's batches end at m: what it tells and leaves. -/
def opE (A : AD) (h : HeadD) (m : Nat) : Int :=
  if snE A h.l m ≠ 0 then snE A h.l m else if snE (snD A h.l m) (1 - h.l) 0 ≠ 0 then snE (snD A h.l m) (1 - h.l) 0 else saveE (snD (snD A h.l m) (1 - h.l) 0) h.later
def opD (A : AD) (h : HeadD) (m : Nat) : AD :=
  if snE A h.l m ≠ 0 then snD A h.l m else if snE (snD A h.l m) (1 - h.l) 0 ≠ 0 then snD (snD A h.l m) (1 - h.l) 0 else saveD (snD (snD A h.l m) (1 - h.l) 0) h.later

def opK : Nat → FuncId
  | 0 => 52
  | 1 => 53
  | _ => 54
def opC (db hb eb : Nat) : Nat → Array Value
  | 0 => #[.pointer (some ⟨db, 0, none⟩), .pointer (some ⟨hb, 0, none⟩), .pointer (some ⟨eb, 0, none⟩)]
  | 1 => #[.pointer (some ⟨db, 0, none⟩), .pointer (some ⟨hb, 0, none⟩)]
  | _ => #[.pointer (some ⟨db, 0, none⟩), .pointer (some ⟨hb, 0, none⟩)]
def opF (db hb eb : Nat) : Array Value := #[.func (.func 52) #[] #[.pointer (some ⟨db, 0, none⟩), .pointer (some ⟨hb, 0, none⟩), .pointer (some ⟨eb, 0, none⟩)], .func (.func 53) #[] #[.pointer (some ⟨db, 0, none⟩), .pointer (some ⟨hb, 0, none⟩)], .func (.func 54) #[] #[.pointer (some ⟨db, 0, none⟩), .pointer (some ⟨hb, 0, none⟩)]]
/-- A head in a block of its own. -/
def headAt (b : Nat) (t : TypeId) (h : HeadD) : Nat × Obj := (b, Obj.cells #[.int .u64 ((h.s : Nat) : Int), .int .u64 ((h.e : Nat) : Int), .int .u8 ((h.l : Nat) : Int)] t (0, 0))

section
variable {w W : World} {L : List (Value × Thing)} {M : List (Nat × Obj)} {p : Nat} {A : AD}
def opM (M : List (Nat × Obj)) (b eb hb db p : Nat) (t0 t1 t2 t3 : TypeId) (m : Nat) (h : HeadD) : List (Nat × Obj) := (b, Obj.cells (opF db hb eb) t0 (0, 0)) :: (eb, Obj.cells #[.int .i64 ((m : Nat) : Int)] t1 (0, 0)) :: headAt hb t2 h :: (db, Obj.cells #[.pointer (some ⟨p, 0, none⟩)] t3 (0, 0)) :: M
def opR (w : World) (L : List (Value × Thing)) (M0 M1 : List (Nat × Obj)) (p : Nat) (A : AD) (h : HeadD) (m : Nat) : Nat → World → Prop
  | 0, W => Kj w W L M0 p A
  | 1, W => snE A h.l m = 0 ∧ Kj w W L M0 p (snD A h.l m)
  | 2, W => snE A h.l m = 0 ∧ snE (snD A h.l m) (1 - h.l) 0 = 0 ∧ Kj w W L M0 p (snD (snD A h.l m) (1 - h.l) 0)
  | _, W => opE A h m = 0 ∧ Kj w W L M1 p (opD A h m)

theorem op_turn (h : HeadD) (hl : h.l < 2) (hf : h.fits) (b eb hb db c m : Nat) (t0 t1 t2 t3 : TypeId) (hk : Kj w W L (opM M b eb hb db p t0 t1 t2 t3 m h.later) p A) :
    Calls Try.prog 37 #[.slice (some ⟨b, 0, none⟩) 3 c] W fun x W' => x = .returned (.int .i64 (opE A h m)) ∧ (opE A h m ≠ 0 → Kj w W' L M p (opD A h m)) ∧ (opE A h m = 0 → Kj w W' L (opM M b eb hb db p t0 t1 t2 t3 m h.later.next) p (opD A h m)) := by
  have hfl : h.later.fits := ⟨hf.1, Nat.mod_lt _ (by decide), hf.2.2⟩
  have hdm : (db, Obj.cells #[.pointer (some ⟨p, 0, none⟩)] t3 (0, 0)) ∈ opM M b eb hb db p t0 t1 t2 t3 m h.later := by simp [opM]
  have hem : (eb, Obj.cells #[.int .i64 ((m : Nat) : Int)] t1 (0, 0)) ∈ opM M b eb hb db p t0 t1 t2 t3 m h.later := by simp [opM]
  have hhm : (hb, Obj.cells #[.int .u64 ((h.s : Nat) : Int), .int .u64 ((h.later.e : Nat) : Int), .int .u8 ((h.l : Nat) : Int)] t2 (0, 0)) ∈ opM M b eb hb db p t0 t1 t2 t3 m h.later := by simp [opM, headAt, HeadD.later]
  have hfm : (b, Obj.cells (opF db hb eb) t0 (0, 0)) ∈ opM M b eb hb db p t0 t1 t2 t3 m h.later := by simp [opM]
  have hhi : (opM M b eb hb db p t0 t1 t2 t3 m h.later)[2]? = some (hb, Obj.cells #[.int .u64 ((h.s : Nat) : Int), .int .u64 ((h.later.e : Nat) : Int), .int .u8 ((h.l : Nat) : Int)] t2 (0, 0)) := rfl
  have hdrop : ∀ {W' A'}, Kj w W' L (opM M b eb hb db p t0 t1 t2 t3 m h.later) p A' → Kj w W' L M p A' := fun {W' A'} hk => hk.drop 4
  refine (inTurn_any 3 (by decide) b c opK (opC db hb eb) (opR w L (opM M b eb hb db p t0 t1 t2 t3 m h.later) (opM M b eb hb db p t0 t1 t2 t3 m h.later.next) p A h m) (fun E W' => E = opE A h m ∧ Kj w W' L M p (opD A h m)) W ?_ ?_ ?_ hk).mono ?_
  · intro i hi W'
    rcases (show i = 0 ∨ i = 1 ∨ i = 2 by omega) with rfl | rfl | rfl
    · exact enters_clos_open1 _ _
    · exact enters_clos_open2 _ _
    · exact enters_clos_open3 _ _
  · intro i W' hi hR
    rcases (show i = 0 ∨ i = 1 ∨ i = 2 by omega) with rfl | rfl | rfl
    · exact Kj.cell (show Kj w W' L (opM M b eb hb db p t0 t1 t2 t3 m h.later) p A from hR) hfm 0
    · exact Kj.cell hR.2 hfm 1
    · exact Kj.cell hR.2.2 hfm 2
  · intro i W' hi hR
    rcases (show i = 0 ∨ i = 1 ∨ i = 2 by omega) with rfl | rfl | rfl
    · refine (clos_open1 (show Kj w W' L (opM M b eb hb db p t0 t1 t2 t3 m h.later) p A from hR) h.s h.later.e h.l m hl hdm hhm hem).mono fun x W2 ⟨hx, hk⟩ => ⟨_, hx, fun e => ⟨e, hk⟩, fun e => ?_⟩
      exact ⟨by rw [opE, if_pos e], by rw [opD, if_pos e]; exact hdrop hk⟩
    · obtain ⟨e1, hR⟩ := hR
      refine (clos_open2 hR h.s h.later.e h.l hl hdm hhm).mono fun x W2 ⟨hx, hk⟩ => ⟨_, hx, fun e => ⟨e1, e, hk⟩, fun e => ?_⟩
      exact ⟨by rw [opE, if_neg (fun h => h e1), if_pos e], by rw [opD, if_neg (fun h => h e1), if_pos e]; exact hdrop hk⟩
    · obtain ⟨e1, e2, hR⟩ := hR
      have eE : opE A h m = saveE (snD (snD A h.l m) (1 - h.l) 0) h.later := by rw [opE, if_neg (fun h => h e1), if_neg (fun h => h e2)]
      have eD : opD A h m = saveD (snD (snD A h.l m) (1 - h.l) 0) h.later := by rw [opD, if_neg (fun h => h e1), if_neg (fun h => h e2)]
      refine (clos_open3 hR h.s h.later.e h.l hfl 2 hdm hhi).mono fun x W2 ⟨hx, k1, k2⟩ => ⟨_, hx, fun e => ?_, fun e => ?_⟩
      · exact ⟨by rw [eE]; exact e, by rw [eD]; exact k2 e⟩
      · exact ⟨by rw [eE]; rfl, by rw [eD]; exact hdrop (k1 e)⟩
  · rintro x W' ⟨E, rfl, h1, h2⟩
    by_cases e : E = 0
    · obtain ⟨a1, a2⟩ := h1 e
      exact ⟨by rw [a1, e], fun hne => (hne a1).elim, fun _ => a2⟩
    · obtain ⟨a1, a2⟩ := h2 e
      exact ⟨by rw [a1], fun _ => a2, fun h0 => (e (a1.trans h0)).elim⟩

/-- A head that is loaded is right. -/
theorem pickH_right {z o : List UInt8} {h : HeadD} (hp : pickH z o = some h) : h.right = true := by
  unfold pickH at hp
  simp only at hp
  split at hp
  · rename_i hc
    have e : headOf o = h := by simpa using hp
    have hi : isHead o = true := by
      simp only [Bool.or_eq_true, Bool.and_eq_true] at hc
      rcases hc with ⟨⟨_, h1⟩, _⟩ | ⟨h1, _⟩
      · exact h1.1
      · exact h1.1
    rw [← e]; exact (bytes_read hi).2.1
  · split at hp
    · rename_i hc
      have e : headOf z = h := by simpa using hp
      simp only [Bool.and_eq_true] at hc
      rw [← e]; exact (bytes_read hc.1).2.1
    · cases hp
theorem load_right {A : AD} (h : loadE A = 0) : (loadH A).right = true ∧ A.dead = false := by
  unfold loadE at h
  unfold loadH
  cases hd : A.dead with
  | true => rw [hd] at h; simp at h
  | false =>
    rw [hd] at h
    simp only [Bool.false_eq_true, if_false] at h ⊢
    cases hp : pickH (A.sh 0) (A.sh 1) with
    | none => rw [hp] at h; simp at h
    | some y => exact ⟨by unfold pickV; rw [hp]; exact pickH_right hp, trivial⟩

/-- Read and Scan leave all that was there alone. -/
theorem kjReadB (h : Kj w W L M p A) (i : Nat) (hi : i < 2) (X : List UInt8) (n : Nat) (hX : rdX A i = X) (hn : X.length = n) : Calls Try.prog 24 #[.pointer (some ⟨p, 0, none⟩), .int .i64 ((i : Nat) : Int)] W fun x W' => ∃ a c, x = .returned (.slice a n c) ∧ Kj w W' ((.slice a n c, Thing.bytes X) :: L) M p A ∧ Below W.heap.size W W' := by
  subst hX hn
  obtain ⟨D, v, F, h1, _, _, _, _⟩ := h.step
  cases hd : A.dead with
  | true =>
    have e1 : rdX A i = [] := by simp [rdX, hd]
    rw [e1]
    refine (read_none h1 _ (.inl hd)).mono ?_
    rintro x W' ⟨rfl, hW⟩
    subst hW
    exact ⟨none, 0, rfl, h.add (Below.refl _ _) _ _ fun F _ _ _ => ⟨.inl ⟨rfl, rfl⟩, fun hne => (hne rfl).elim⟩, Below.refl _ _⟩
  | false =>
    have e1 : rdX A i = A.x i := by simp [rdX, hd]
    rw [e1]
    refine (read_ok h1 hd i hi).mono ?_
    rintro x W' ⟨r, rfl, hF⟩
    obtain ⟨a, c, rfl, _⟩ := hF.1.form
    exact ⟨a, c, rfl, h.add hF.2.2 _ _ fun F _ _ _ => ⟨hF.1, fun _ k hk => .inr (hF.2.1 k hk)⟩, hF.2.2⟩
theorem kjScanB (h : Kj w W L M p A) (a : Option Addr) (n c : Nat) (b : List UInt8) (hm : (.slice a n c, Thing.bytes b) ∈ L) (hl : n ≤ 1048576) : Calls Try.prog 51 #[.slice a n c] W fun x W' => ∃ va nb vc bs m e, x = .returned (.tuple #[.slice va nb vc, .int .i64 ((m : Nat) : Int), .int .i64 e]) ∧ nb = bs.length ∧ ScanIs b bs m e ∧ Kj w W' ((.slice va nb vc, Thing.bats bs) :: L) M p A ∧ Below W.heap.size W W' := by
  refine (landScanN_any a n c b W (h.byt hm) hl).mono ?_
  rintro x W' ⟨v, bs, m, e, vk, kept, rfl, hs, hN⟩
  obtain ⟨va, vc, rfl⟩ := hN.formO
  exact ⟨va, _, vc, bs, m, e, rfl, rfl, hs, h.add hN.bb _ _ fun F _ _ _ => scanN_in hN fun k h1 h2 => .inr ⟨h1, h2⟩, hN.bb⟩
/-- What Open's look at the live segment leaves: the batches, and the box of their end. -/
def OpenBoxes (w : World) (L : List (Value × Thing)) (M : List (Nat × Obj)) (p : Nat) (A : AD) (X : List UInt8) (v7 v8 : Value) (wx : World) : Prop := ∃ va nb vc bs m e eb, v7 = .slice va nb vc ∧ v8 = .pointer (some ⟨eb, 0, none⟩) ∧ nb = bs.length ∧ ScanIs X bs m e ∧ Kj w wx ((.slice va nb vc, Thing.bats bs) :: L) ((eb, Obj.cells #[.int .i64 ((m : Nat) : Int)] 3 (0, 0)) :: M) p A

/-- What Open answers. -/
def OpenAt (w : World) (L : List (Value × Thing)) (M : List (Nat × Obj)) (p : Nat) (A : AD) (x : Ending) (W' : World) : Prop :=
  (loadE A ≠ 0 ∧ x = .returned (.tuple #[.pointer none, .slice none 0 0, .int .i64 (loadE A)]) ∧ Kj w W' L M p A) ∨
  (loadE A = 0 ∧ ∃ bs m e, ScanIs (A.x (loadH A).l) bs m e ∧
    ((opE A (loadH A) m ≠ 0 ∧ x = .returned (.tuple #[.pointer none, .slice none 0 0, .int .i64 (opE A (loadH A) m)]) ∧ Kj w W' L M p (opD A (loadH A) m)) ∨
     (opE A (loadH A) m = 0 ∧ ∃ g va vc, x = .returned (.tuple #[.pointer (some ⟨g, 0, none⟩), .slice va bs.length vc, .int .i64 0]) ∧ Kj w W' ((.slice va bs.length vc, Thing.bats bs) :: L) (MJ M g p 66 (loadH A).later.next) p (opD A (loadH A) m))))

set_option maxRecDepth 100000 in
set_option maxHeartbeats 8000000 in
theorem kjOpen (h : Kj w W L M p A) : Calls Try.prog 19 #[.pointer (some ⟨p, 0, none⟩)] W fun x W' => OpenAt w L M p A x W' := by
  have hok : A.Ok := by obtain ⟨D, v, F, h1, _⟩ := h.dsk; exact h1.ok
  have HOK := hide hok
  have HFT := hide (loadH_fits hok)
  clear hok
  have HK := hide (h.new (.cells #[.pointer (some ⟨p, 0, none⟩)] 29))
  clear h
  have hmk := makes
  go_enter Try.func19, Try.ntmps19
  go_upto_region 1 with fail
  generalize hW1 : W.alloc (.cells #[.pointer (some ⟨p, 0, none⟩)] 29) = W1 at *
  clear hW1
  generalize W.heap.size = db at *
  have c0 : W1.cell? ⟨db, 0, none⟩ = some (.pointer (some ⟨p, 0, none⟩)) := (unhide HK).cell (List.mem_cons_self ..) 0
  go_wp2_with fail
  refine (kjLoad (unhide HK)).mono ?_
  rintro x W2 ⟨s, e, l, rfl, hH, hk⟩
  have HH := hide hH
  have HK2 := hide (hk.new (.cells #[.int .u64 ((s : Nat) : Int), .int .u64 ((e : Nat) : Int), .int .u8 ((l : Nat) : Int)] 37))
  clear hH hk HK c0
  obtain ⟨E, hE⟩ : ∃ E, loadE A = E := ⟨_, rfl⟩
  rw [hE]
  have HE := hide hE
  clear hE
  go_upto_region 2 with fail
  generalize hW3 : W2.alloc (.cells #[.int .u64 ((s : Nat) : Int), .int .u64 ((e : Nat) : Int), .int .u8 ((l : Nat) : Int)] 37) = W3 at *
  clear hW3
  generalize W2.heap.size = hb at *
  by_cases h0 : E = 0
  · subst h0
    have HR := hide (load_right (unhide HE))
    have HL : Hid (l < 2) := by
      have h1 := (HeadD.right_iff.1 (unhide HR).1).2
      rw [unhide HH] at h1
      show _ < _
      have h2 : l ≤ 1 := h1
      omega
    have HF : Hid (HeadD.mk s e l).fits := by have := unhide HFT; rw [unhide HH] at this; exact this
    obtain ⟨X, hX⟩ : ∃ X, rdX A l = X := ⟨_, rfl⟩
    obtain ⟨n, hn⟩ : ∃ n, X.length = n := ⟨_, rfl⟩
    have HXA : Hid (A.x l = X) := by show _ = _; rw [← hX, rdX, (unhide HR).2]; rfl
    have HNB : Hid (n ≤ 1048576) := by
      show _ ≤ _
      have h1 := (unhide HOK).room
      have h2 := (unhide HOK).cap
      have h3 := unhide HL
      have h4 := unhide HXA
      rcases (show l = 0 ∨ l = 1 by omega) with rfl | rfl
      · rw [h4] at h1; omega
      · rw [h4] at h1; omega
    have HX := hide hX
    have HN := hide hn
    clear hX hn
    have c0 : W3.cell? ⟨db, 0, none⟩ = some (.pointer (some ⟨p, 0, none⟩)) := (unhide HK2).cell (List.mem_cons_of_mem _ (List.mem_cons_self ..)) 0
    have c1 : W3.cell? ⟨hb, 0, none⟩ = some (.int .u64 ((s : Nat) : Int)) := (unhide HK2).cell (List.mem_cons_self ..) 0
    have c2 : W3.cell? ⟨hb, 1, none⟩ = some (.int .u64 ((e : Nat) : Int)) := (unhide HK2).cell (List.mem_cons_self ..) 1
    have c3 : W3.cell? ⟨hb, 2, none⟩ = some (.int .u8 ((l : Nat) : Int)) := (unhide HK2).cell (List.mem_cons_self ..) 2
    go_upto_region 4 with fail
    go_cut [7, 8] (fun v7 v8 wx => OpenBoxes w L (headAt hb 37 ⟨s, e, l⟩ :: (db, Obj.cells #[.pointer (some ⟨p, 0, none⟩)] 29 (0, 0)) :: M) p A X v7 v8 wx)
    case first =>
      have HKS : Hid (∀ X, Below W3.heap.size W3 X → X.cell? ⟨db, 0, none⟩ = some (.pointer (some ⟨p, 0, none⟩)) ∧ X.cell? ⟨hb, 0, none⟩ = some (.int .u64 ((s : Nat) : Int)) ∧ X.cell? ⟨hb, 1, none⟩ = some (.int .u64 ((e : Nat) : Int)) ∧ X.cell? ⟨hb, 2, none⟩ = some (.int .u8 ((l : Nat) : Int)) ∧ Below W3.heap.size W3 X) := fun X hb' =>
        ⟨(hb'.cell (p := ⟨db, 0, none⟩) (World.block_lt_of_cell? _ _ c0)).trans c0, (hb'.cell (p := ⟨hb, 0, none⟩) (World.block_lt_of_cell? _ _ c1)).trans c1, (hb'.cell (p := ⟨hb, 1, none⟩) (World.block_lt_of_cell? _ _ c2)).trans c2, (hb'.cell (p := ⟨hb, 2, none⟩) (World.block_lt_of_cell? _ _ c3)).trans c3, hb'⟩
      go_region_held3 (fun X => X.cell? ⟨db, 0, none⟩ = some (.pointer (some ⟨p, 0, none⟩)) ∧ X.cell? ⟨hb, 0, none⟩ = some (.int .u64 ((s : Nat) : Int)) ∧ X.cell? ⟨hb, 1, none⟩ = some (.int .u64 ((e : Nat) : Int)) ∧ X.cell? ⟨hb, 2, none⟩ = some (.int .u8 ((l : Nat) : Int)) ∧ Below W3.heap.size W3 X)
        ((refine unhide HKS _ ?_; repeat' (first | assumption | exact Below.refl _ _ | refine Below.drew ?_ | refine Below.alloc ?_ ?_ _ | refine Below.setCell ?_ ?_ _ | (first | (have q1 := hBC.size; have q2 := hBB.size; have q3 := hBA.size; simp; omega) | (have q1 := hBC.size; have q2 := hBB.size; have q3 := hBA.size; dsimp only; omega) | (have q2 := hBB.size; have q3 := hBA.size; simp; omega) | (have q2 := hBB.size; have q3 := hBA.size; dsimp only; omega) | (have q2 := hBA.size; simp; omega) | (have q2 := hBA.size; dsimp only; omega) | (simp; done) | (simp; omega) | (dsimp only; omega)))))
        (first
          | (go_at_call 35; refine (live_below s e l (by have := unhide HL; omega) _).mono ?_; rintro x w3 ⟨rfl, hb3⟩; have hBA := (by assumption : _ ∧ _ ∧ _ ∧ _ ∧ Below W3.heap.size W3 _).2.2.2.2.trans (hb3.mono (by assumption : _ ∧ _ ∧ _ ∧ _ ∧ Below W3.heap.size W3 _).2.2.2.2.size); (first | have HKA := hide (((unhide HK2).new (.cells #[.int .i64 0] 3)).drew1.later hb3) | have HKA := hide ((unhide HK2).drew1.later hb3)); clear hb3)
          | (go_at_call 24; (first | refine (kjReadB ((unhide HKA).new (.cells #[.int .i64 0] 3)) l (unhide HL) X n (unhide HX) (unhide HN)).mono ?_ | refine (kjReadB (unhide HKA) l (unhide HL) X n (unhide HX) (unhide HN)).mono ?_); rintro x w4 ⟨ra, rc, rfl, hk4, hb4⟩; have hBB := (by assumption : _ ∧ _ ∧ _ ∧ _ ∧ Below W3.heap.size W3 _).2.2.2.2.trans (hb4.mono (by assumption : _ ∧ _ ∧ _ ∧ _ ∧ Below W3.heap.size W3 _).2.2.2.2.size); have HKB := hide hk4; clear hk4 hb4)
          | (go_at_call 51; (first | refine (kjScanB ((unhide HKB).new (.cells #[.int .i64 0] 3)) ra n rc X (List.mem_cons_self ..) (unhide HNB)).mono ?_ | refine (kjScanB (unhide HKB) ra n rc X (List.mem_cons_self ..) (unhide HNB)).mono ?_); rintro x w5 ⟨va, nb, vc, bs, m, ee, rfl, hnb, hs, hk5, hb5⟩; have hBC := (by assumption : _ ∧ _ ∧ _ ∧ _ ∧ Below W3.heap.size W3 _).2.2.2.2.trans (hb5.mono (by assumption : _ ∧ _ ∧ _ ∧ _ ∧ Below W3.heap.size W3 _).2.2.2.2.size); have HNB2 := hide hnb; have HSC := hide hs; have HKC := hide hk5; clear hk5 hb5 hnb hs; (first | (have q1 : w5.cell? ⟨_, 0, none⟩ = some (.int .i64 0) := (unhide HKC).cell (cs := #[.int .i64 0]) (t := 3) (List.mem_cons_self ..) 0; have f1 : w5.frozen? ⟨_, 0, none⟩ = false := (unhide HKC).frozen (cs := #[.int .i64 0]) (t := 3) (List.mem_cons_self ..) 0) | skip)))
      all_goals (
        go_wp2_with fail
        go_meet
        first
          | exact ⟨_, _, _, _, _, _, _, rfl, rfl, unhide HNB2, unhide HSC, ((unhide HKC).lessL (L' := (.slice va nb vc, Thing.bats bs) :: L) (by intro q hq; simp only [List.mem_cons] at hq ⊢; rcases hq with h | h <;> simp [h])).set 0 rfl 0 (.int .i64 ((m : Nat) : Int))⟩
          | exact ⟨_, _, _, _, _, _, _, rfl, rfl, unhide HNB2, unhide HSC, ((unhide HKC).lessL (L' := (.slice va nb vc, Thing.bats bs) :: L) (by intro q hq; simp only [List.mem_cons] at hq ⊢; rcases hq with h | h <;> simp [h])).new (.cells #[.int .i64 ((m : Nat) : Int)] 3)⟩)
    obtain ⟨va, nb, vc, bs, m, ee, eb, rfl, rfl, hnb, hs, hk4⟩ := hcut
    have HNB2 := hide hnb
    have HSC := hide hs
    have HK4 := hide hk4
    clear hnb hs hk4 HK2 c0 c1 c2 c3
    generalize wc = W4 at *
    have c1 : W4.cell? ⟨hb, 1, none⟩ = some (.int .u64 ((e : Nat) : Int)) := (unhide HK4).cell (g := hb) (cs := #[.int .u64 ((s : Nat) : Int), .int .u64 ((e : Nat) : Int), .int .u8 ((l : Nat) : Int)]) (t := 37) (List.mem_cons_of_mem _ (List.mem_cons_self ..)) 1
    have f1 : W4.frozen? ⟨hb, 1, none⟩ = false := (unhide HK4).frozen (g := hb) (cs := #[.int .u64 ((s : Nat) : Int), .int .u64 ((e : Nat) : Int), .int .u8 ((l : Nat) : Int)]) (t := 37) (List.mem_cons_of_mem _ (List.mem_cons_self ..)) 1
    obtain ⟨t, ht⟩ : ∃ t, (e + 1) % 18446744073709551616 = t := ⟨_, rfl⟩
    have HHL : Hid ((HeadD.mk s e l).later = ⟨s, t, l⟩) := by show _ = _; rw [← ht]; rfl
    have hwr : IntKind.u64.wrap ((e : Int) + 1) = ((t : Nat) : Int) := by rw [IntKind.wrap_u64]; omega
    have HK5 := hide (show Kj w (W4.setCell ⟨hb, 1, none⟩ (.int .u64 ((t : Nat) : Int))) _ ((eb, Obj.cells #[.int .i64 ((m : Nat) : Int)] 3 (0, 0)) :: headAt hb 37 ⟨s, t, l⟩ :: (db, Obj.cells #[.pointer (some ⟨p, 0, none⟩)] 29 (0, 0)) :: M) p A from (unhide HK4).set 1 rfl 1 (.int .u64 ((t : Nat) : Int)))
    clear ht HK4
    go_upto_region 6 with fail
    generalize hW5 : W4.setCell ⟨hb, 1, none⟩ (.int .u64 ((t : Nat) : Int)) = W5 at *
    clear hW5 c1 f1 hwr
    have HK6 := hide ((unhide HK5).new (.cells (opF db hb eb) 108))
    clear HK5
    have HOF : Hid (opF db hb eb = #[.func (.func 52) #[] #[.pointer (some ⟨db, 0, none⟩), .pointer (some ⟨hb, 0, none⟩), .pointer (some ⟨eb, 0, none⟩)], .func (.func 53) #[] #[.pointer (some ⟨db, 0, none⟩), .pointer (some ⟨hb, 0, none⟩)], .func (.func 54) #[] #[.pointer (some ⟨db, 0, none⟩), .pointer (some ⟨hb, 0, none⟩)]]) := by rfl
    go_wp2_with fail
    rw [← unhide HOF]
    refine (op_turn ⟨s, e, l⟩ (unhide HL) (unhide HF) _ eb hb db _ m _ _ _ _ (by rw [unhide HHL]; exact unhide HK6)).mono ?_
    rintro x W6 ⟨rfl, k1, k2⟩
    have K1 := hide k1
    have K2 := hide k2
    clear k1 k2 HK6 HOF
    obtain ⟨E2, hE2⟩ : ∃ E2, opE A ⟨s, e, l⟩ m = E2 := ⟨_, rfl⟩
    rw [hE2]
    have HE2 := hide hE2
    clear hE2
    have HXS : Hid (ScanIs (A.x (loadH A).l) bs m ee) := by show ScanIs _ _ _ _; rw [unhide HH]; show ScanIs (A.x l) _ _ _; rw [unhide HXA]; exact unhide HSC
    clear HSC
    by_cases h2 : E2 = 0
    · subst h2
      obtain ⟨⟨s', e', l'⟩, hnx⟩ : ∃ N, (HeadD.mk s e l).later.next = N := ⟨_, rfl⟩
      have HNX := hide hnx
      clear hnx
      have HK7 := hide (show Kj w W6 _ ((_, Obj.cells (opF db hb eb) 108 (0, 0)) :: (eb, Obj.cells #[.int .i64 ((m : Nat) : Int)] 3 (0, 0)) :: headAt hb 37 ⟨s', e', l'⟩ :: (db, Obj.cells #[.pointer (some ⟨p, 0, none⟩)] 29 (0, 0)) :: M) p (opD A ⟨s, e, l⟩ m) from by have := unhide K2 (unhide HE2); rw [unhide HNX] at this; exact this)
      clear K1 K2
      have c0 : W6.cell? ⟨db, 0, none⟩ = some (.pointer (some ⟨p, 0, none⟩)) := (unhide HK7).cell (List.mem_cons_of_mem _ (List.mem_cons_of_mem _ (List.mem_cons_of_mem _ (List.mem_cons_self ..)))) 0
      have hhm : (hb, Obj.cells #[.int .u64 ((s' : Nat) : Int), .int .u64 ((e' : Nat) : Int), .int .u8 ((l' : Nat) : Int)] 37 (0, 0)) ∈ ((W5.heap.size, Obj.cells (opF db hb eb) 108 (0, 0)) :: (eb, Obj.cells #[.int .i64 ((m : Nat) : Int)] 3 (0, 0)) :: headAt hb 37 ⟨s', e', l'⟩ :: (db, Obj.cells #[.pointer (some ⟨p, 0, none⟩)] 29 (0, 0)) :: M) := List.mem_cons_of_mem _ (List.mem_cons_of_mem _ (List.mem_cons_self ..))
      have c1 : W6.cell? ⟨hb, 0, none⟩ = some (.int .u64 ((s' : Nat) : Int)) := (unhide HK7).cell hhm 0
      have c2 : W6.cell? ⟨hb, 1, none⟩ = some (.int .u64 ((e' : Nat) : Int)) := (unhide HK7).cell hhm 1
      have c3 : W6.cell? ⟨hb, 2, none⟩ = some (.int .u8 ((l' : Nat) : Int)) := (unhide HK7).cell hhm 2
      clear hhm
      have HK8 := hide (((unhide HK7).drop 4).new (.cells (jCells W6.heap.size p ⟨s', e', l'⟩) 66))
      clear HK7
      go_wp2_with fail
      go_ret3
      refine .inr ⟨unhide HE, bs, m, ee, unhide HXS, .inr ⟨by rw [unhide HH]; exact unhide HE2, _, va, vc, by rw [← unhide HNB2]; rfl, ?_⟩⟩
      rw [← unhide HNB2, unhide HH, unhide HNX]
      exact unhide HK8
    · have h2' : (E2 != 0) = true := bne_iff_ne.2 h2
      have H2 := hide h2
      clear h2
      go_wp2_with fail
      go_ret3
      exact .inr ⟨unhide HE, bs, m, ee, unhide HXS, .inl ⟨by rw [unhide HH, unhide HE2]; exact unhide H2, by rw [unhide HH, unhide HE2]; rfl, by rw [unhide HH]; exact (unhide K1 (by rw [unhide HE2]; exact unhide H2)).lessL fun q hq => List.mem_cons_of_mem _ hq⟩⟩
  · have h0' : (E != 0) = true := bne_iff_ne.2 h0
    have H0 := hide h0
    clear h0
    go_wp2_with fail
    go_ret3
    exact .inl ⟨by rw [unhide HE]; exact unhide H0, by rw [unhide HE]; rfl, (unhide HK2).drop 2⟩
end
end Go.Proofs.Ytflfiobicapopaa

namespace Go.Proofs.Ytflfiobicapopaa
open Go.RowKit

section
variable {w W : World} {L : List (Value × Thing)} {M : List (Nat × Obj)} {p g : Nat} {A : AD} {h : HeadD} {tj : TypeId}
set_option maxRecDepth 100000 in
set_option maxHeartbeats 2000000 in
theorem kjJFree (hk : Kj w W L M p A) (hg : (g, Obj.cells (jCells g p h) tj (0, 0)) ∈ M) : Calls Try.prog 26 #[.pointer (some ⟨g, 0, none⟩)] W fun x W' => x = .returned (.int .i64 (frE A)) ∧ W' = W := by
  have HK := hide hk
  have HC := hide (hk.cell hg 0)
  have c1 : W.cell? ⟨g, 1, none⟩ = some (.pointer (some ⟨p, 0, none⟩)) := hk.cell hg 1
  clear hk hg
  go_enter Try.func26, Try.ntmps26
  go_wp2_with fail
  refine (jmade_yes g W (unhide HC)).mono ?_
  rintro x w' ⟨rfl, rfl⟩
  go_wp2_with fail
  refine (kjFree (unhide HK)).mono ?_
  rintro x w2 ⟨rfl, rfl⟩
  go_wp2_with fail
  go_ret
  exact ⟨rfl, rfl⟩

set_option maxRecDepth 100000 in
set_option maxHeartbeats 2000000 in
theorem kjJSize (hk : Kj w W L M p A) (hl : h.l < 2) (hg : (g, Obj.cells (jCells g p h) tj (0, 0)) ∈ M) : Calls Try.prog 21 #[.pointer (some ⟨g, 0, none⟩)] W fun x W' => x = .returned (.int .i64 (((rdX A h.l).length : Nat) : Int)) ∧ Kj w W' L M p A := by
  have HK := hide hk
  have HC := hide (hk.cell hg 0)
  have HL := hide hl
  have c1 : W.cell? ⟨g, 1, none⟩ = some (.pointer (some ⟨p, 0, none⟩)) := hk.cell hg 1
  have c2 : W.cell? ⟨g, 2, none⟩ = some (.int .u64 ((h.s : Nat) : Int)) := hk.cell hg 2
  have c3 : W.cell? ⟨g, 3, none⟩ = some (.int .u64 ((h.e : Nat) : Int)) := hk.cell hg 3
  have c4 : W.cell? ⟨g, 4, none⟩ = some (.int .u8 ((h.l : Nat) : Int)) := hk.cell hg 4
  have HKS : Hid (∀ X, Below W.heap.size W X → X.cell? ⟨g, 1, none⟩ = some (.pointer (some ⟨p, 0, none⟩)) ∧ X.cell? ⟨g, 2, none⟩ = some (.int .u64 ((h.s : Nat) : Int)) ∧ X.cell? ⟨g, 3, none⟩ = some (.int .u64 ((h.e : Nat) : Int)) ∧ X.cell? ⟨g, 4, none⟩ = some (.int .u8 ((h.l : Nat) : Int)) ∧ Below W.heap.size W X) := fun X hb =>
    ⟨(hb.cell (p := ⟨g, 1, none⟩) (World.block_lt_of_cell? _ _ c1)).trans c1, (hb.cell (p := ⟨g, 2, none⟩) (World.block_lt_of_cell? _ _ c2)).trans c2, (hb.cell (p := ⟨g, 3, none⟩) (World.block_lt_of_cell? _ _ c3)).trans c3, (hb.cell (p := ⟨g, 4, none⟩) (World.block_lt_of_cell? _ _ c4)).trans c4, hb⟩
  obtain ⟨X, hX⟩ : ∃ X, rdX A h.l = X := ⟨_, rfl⟩
  obtain ⟨n, hn⟩ : ∃ n, X.length = n := ⟨_, rfl⟩
  have HR : Hid ((((rdX A h.l).length : Nat) : Int) = ((n : Nat) : Int)) := by show _ = _; rw [hX, hn]
  have HX := hide hX
  have HN := hide hn
  clear hk hg hX hn
  go_enter Try.func21, Try.ntmps21
  go_wp2_with fail
  refine (jmade_yes g W (unhide HC)).mono ?_
  rintro x w' ⟨rfl, rfl⟩
  go_wp2_with fail
  go_region_held3 (fun X => X.cell? ⟨g, 1, none⟩ = some (.pointer (some ⟨p, 0, none⟩)) ∧ X.cell? ⟨g, 2, none⟩ = some (.int .u64 ((h.s : Nat) : Int)) ∧ X.cell? ⟨g, 3, none⟩ = some (.int .u64 ((h.e : Nat) : Int)) ∧ X.cell? ⟨g, 4, none⟩ = some (.int .u8 ((h.l : Nat) : Int)) ∧ Below w'.heap.size w' X)
    ((refine unhide HKS _ ?_; repeat' (first | assumption | exact Below.refl _ _ | refine Below.drew ?_)))
    (first
      | (go_at_call 35; refine (live_below h.s h.e h.l (by have := unhide HL; omega) _).mono ?_; rintro x w3 ⟨rfl, hb3⟩; have hBA := (by assumption : _ ∧ _ ∧ _ ∧ _ ∧ Below w'.heap.size w' _).2.2.2.2.trans (hb3.mono (by assumption : _ ∧ _ ∧ _ ∧ _ ∧ Below w'.heap.size w' _).2.2.2.2.size); have HKA := hide ((unhide HK).drew1.later hb3); clear hb3)
      | (go_at_call 24; refine (kjReadB (unhide HKA) h.l (unhide HL) X n (unhide HX) (unhide HN)).mono ?_; rintro x w4 ⟨ra, rc, rfl, hk4, hb4⟩; have hBB := (by assumption : _ ∧ _ ∧ _ ∧ _ ∧ Below w'.heap.size w' _).2.2.2.2.trans (hb4.mono (by assumption : _ ∧ _ ∧ _ ∧ _ ∧ Below w'.heap.size w' _).2.2.2.2.size); have HKB := hide hk4; clear hk4 hb4))
  go_wp2_with fail
  go_ret
  exact ⟨by rw [unhide HR]; rfl, (unhide HKB).lessL fun q hq => List.mem_cons_of_mem _ hq⟩

set_option maxRecDepth 100000 in
set_option maxHeartbeats 2000000 in
theorem kjJHead (hk : Kj w W L M p A) (hg : (g, Obj.cells (jCells g p h) tj (0, 0)) ∈ M) : Calls Try.prog 12 #[.pointer (some ⟨g, 0, none⟩)] W fun x W' => x = .returned (.agg #[.int .u64 ((h.s : Nat) : Int), .int .u64 ((h.e : Nat) : Int), .int .u8 ((h.l : Nat) : Int)]) ∧ Kj w W' L M p A := by
  have HK := hide (hk.new (.cells #[.int .u64 0, .int .u64 0, .int .u8 0] 37))
  have hgm := List.mem_cons_of_mem (W.heap.size, Obj.cells #[.int .u64 0, .int .u64 0, .int .u8 0] 37 (0, 0)) hg
  have HC := hide ((unhide HK).cell hgm 0)
  have HGM := hide hgm
  clear hk hg hgm
  go_enter Try.func12, Try.ntmps12
  go_upto_region 1 with fail
  generalize hW1 : W.alloc (.cells #[.int .u64 0, .int .u64 0, .int .u8 0] 37) = W1 at *
  clear hW1
  generalize W.heap.size = rb at *
  have c2 : W1.cell? ⟨g, 2, none⟩ = some (.int .u64 ((h.s : Nat) : Int)) := (unhide HK).cell (unhide HGM) 2
  have c3 : W1.cell? ⟨g, 3, none⟩ = some (.int .u64 ((h.e : Nat) : Int)) := (unhide HK).cell (unhide HGM) 3
  have c4 : W1.cell? ⟨g, 4, none⟩ = some (.int .u8 ((h.l : Nat) : Int)) := (unhide HK).cell (unhide HGM) 4
  have r0 : W1.cell? ⟨rb, 0, none⟩ = some (.int .u64 0) := (unhide HK).cell (List.mem_cons_self ..) 0
  have r1 : W1.cell? ⟨rb, 1, none⟩ = some (.int .u64 0) := (unhide HK).cell (List.mem_cons_self ..) 1
  have r2 : W1.cell? ⟨rb, 2, none⟩ = some (.int .u8 0) := (unhide HK).cell (List.mem_cons_self ..) 2
  have f0 : W1.frozen? ⟨rb, 0, none⟩ = false := (unhide HK).frozen (List.mem_cons_self ..) 0
  have f1 : W1.frozen? ⟨rb, 1, none⟩ = false := (unhide HK).frozen (List.mem_cons_self ..) 1
  have f2 : W1.frozen? ⟨rb, 2, none⟩ = false := (unhide HK).frozen (List.mem_cons_self ..) 2
  have HK2 := hide (((unhide HK).set3 0 rfl 0 (.int .u64 ((h.s : Nat) : Int)) (.int .u64 ((h.e : Nat) : Int)) (.int .u8 ((h.l : Nat) : Int))).drop 1)
  have HB := hide ((unhide HK).ce _ (List.mem_cons_self ..))
  go_wp2_with fail
  refine (jmade_yes g W1 (unhide HC)).mono ?_
  rintro x w' ⟨rfl, rfl⟩
  go_wp2_with fail
  refine bodyPost_ret (results_cell_row rfl _ _ _ _ _ _ _ rfl (set3_heap (unhide HB) _ _ _) Try.underlying37 rfl (by kernel_rfl)) rfl ?_
  exact ⟨rfl, unhide HK2⟩

/-- Of no journal. -/
theorem nojour_form {w : World} {q : Value} (h : NoJour w q) : ∃ a, q = .pointer a := by
  rcases h with h | ⟨b, h, _⟩
  · exact ⟨_, h⟩
  · exact ⟨_, h⟩
set_option maxHeartbeats 1000000 in
theorem jfree_none {q : Value} (h : NoJour W q) : Calls Try.prog 26 #[q] W fun x W' => x = .returned (.int .i64 0) ∧ W' = W := by
  obtain ⟨a, rfl⟩ := nojour_form h
  have HD := hide h
  clear h
  go_enter Try.func26, Try.ntmps26
  go_wp2_with (go_at_call 34; refine (jmade_not (unhide HD)).mono ?_; rintro e w' ⟨rfl, rfl⟩)
  go_ret
  exact ⟨rfl, rfl⟩
set_option maxHeartbeats 1000000 in
theorem jsize_none {q : Value} (h : NoJour W q) : Calls Try.prog 21 #[q] W fun x W' => x = .returned (.int .i64 0) ∧ W' = W := by
  obtain ⟨a, rfl⟩ := nojour_form h
  have HD := hide h
  clear h
  go_enter Try.func21, Try.ntmps21
  go_wp2_with (go_at_call 34; refine (jmade_not (unhide HD)).mono ?_; rintro e w' ⟨rfl, rfl⟩)
  go_ret
  exact ⟨rfl, rfl⟩
set_option maxHeartbeats 1000000 in
theorem jhead_none {q : Value} (h : NoJour W q) : Calls Try.prog 12 #[q] W fun x W' => x = .returned (.agg #[.int .u64 0, .int .u64 0, .int .u8 0]) ∧ Below W.heap.size W W' := by
  obtain ⟨a, rfl⟩ := nojour_form h
  have HB := hide ((Below.refl _ W).alloc (Nat.le_refl _) (.cells #[.int .u64 0, .int .u64 0, .int .u8 0] 37))
  have HD := hide (h.kept (unhide HB))
  have HN := hide (heap_alloc_new W (.cells #[.int .u64 0, .int .u64 0, .int .u8 0] 37))
  clear h
  go_enter Try.func12, Try.ntmps12
  go_wp2_with (go_at_call 34; refine (jmade_not (unhide HD)).mono ?_; rintro e w' ⟨rfl, rfl⟩)
  refine bodyPost_ret (results_cell_row rfl _ _ _ _ _ _ _ rfl (unhide HN) Try.underlying37 rfl (by kernel_rfl)) rfl ?_
  exact ⟨rfl, unhide HB⟩
set_option maxHeartbeats 1000000 in
theorem jappend_none {q : Value} (h : NoJour W q) (a : Option Addr) (n c : Nat) : Calls Try.prog 14 #[q, .slice a n c] W fun x W' => x = .returned (.int .i64 1) ∧ Below W.heap.size W W' := by
  obtain ⟨b, rfl⟩ := nojour_form h
  have HB := hide ((Below.refl _ W).alloc (Nat.le_refl _) (.cells #[.pointer b] 30))
  have HD := hide (h.kept (unhide HB))
  clear h
  go_enter Try.func14, Try.ntmps14
  go_wp2_with (go_at_call 34; refine (jmade_not (unhide HD)).mono ?_; rintro e w' ⟨rfl, rfl⟩)
  go_ret
  exact ⟨rfl, unhide HB⟩
set_option maxHeartbeats 1000000 in
theorem jswitch_none {q : Value} (h : NoJour W q) (a : Option Addr) (n c : Nat) : Calls Try.prog 13 #[q, .slice a n c] W fun x W' => x = .returned (.int .i64 1) ∧ Below W.heap.size W W' := by
  obtain ⟨b, rfl⟩ := nojour_form h
  have HB := hide ((Below.refl _ W).alloc (Nat.le_refl _) (.cells #[.pointer b] 30))
  have HD := hide (h.kept (unhide HB))
  clear h
  go_enter Try.func13, Try.ntmps13
  go_wp2_with (go_at_call 34; refine (jmade_not (unhide HD)).mono ?_; rintro e w' ⟨rfl, rfl⟩)
  go_ret
  exact ⟨rfl, unhide HB⟩
set_option maxHeartbeats 1000000 in
theorem jopen_none {q : Value} (h : NoDisk W q) : Calls Try.prog 19 #[q] W fun x W' => x = .returned (.tuple #[.pointer none, .slice none 0 0, .int .i64 1]) ∧ Below W.heap.size W W' := by
  obtain ⟨b, rfl⟩ : ∃ b, q = .pointer b := by
    rcases h with h | ⟨b, h, _⟩
    · exact ⟨_, h⟩
    · exact ⟨_, h⟩
  have HB := hide ((Below.refl _ W).alloc (Nat.le_refl _) (.cells #[.pointer b] 29))
  have HD := hide (h.alloc (.cells #[.pointer b] 29))
  have hcell : (W.alloc (.cells #[.pointer b] 29)).cell? ⟨W.heap.size, 0, none⟩ = some (.pointer b) := cell_of_row _ _ 0 _ _ _ (heap_alloc_new W _)
  clear h
  go_enter Try.func19, Try.ntmps19
  go_upto_region 1 with fail
  generalize W.alloc (.cells #[.pointer b] 29) = W1 at *
  go_wp2_with fail
  refine (headOk.loadNone (.pointer b) _ (unhide HD)).mono ?_
  rintro x W2 ⟨rfl, hb⟩
  have HB2 := hide (((unhide HB).trans (hb.mono (unhide HB).size)).alloc ((unhide HB).trans (hb.mono (unhide HB).size)).size (.cells #[.int .u64 0, .int .u64 0, .int .u8 0] 37))
  clear hb hcell
  go_wp2_with fail
  go_ret3
  exact ⟨rfl, unhide HB2⟩
set_option maxHeartbeats 1000000 in
theorem jformat_none {q : Value} (h : NoDisk W q) : Calls Try.prog 29 #[q] W fun x W' => x = .returned (.int .i64 1) ∧ Below W.heap.size W W' := by
  obtain ⟨b, rfl⟩ : ∃ b, q = .pointer b := by
    rcases h with h | ⟨b, h, _⟩
    · exact ⟨_, h⟩
    · exact ⟨_, h⟩
  have HB := hide ((Below.refl _ W).alloc (Nat.le_refl _) (.cells #[.pointer b] 29))
  have HD := hide (h.alloc (.cells #[.pointer b] 29))
  have hcell : (W.alloc (.cells #[.pointer b] 29)).cell? ⟨W.heap.size, 0, none⟩ = some (.pointer b) := cell_of_row _ _ 0 _ _ _ (heap_alloc_new W _)
  clear h
  go_enter Try.func29, Try.ntmps29
  go_upto_region 1 with fail
  generalize W.alloc (.cells #[.pointer b] 29) = W1 at *
  go_wp2_with fail
  refine (headOk.loadNone (.pointer b) _ (unhide HD)).mono ?_
  rintro x W2 ⟨rfl, hb⟩
  have HB2 := hide (((unhide HB).trans (hb.mono (unhide HB).size)).alloc ((unhide HB).trans (hb.mono (unhide HB).size)).size (.cells #[.int .u64 0, .int .u64 0, .int .u8 0] 37))
  clear hb hcell
  go_wp2_with fail
  go_ret
  exact ⟨rfl, unhide HB2⟩
end
end Go.Proofs.Ytflfiobicapopaa

namespace Go.Proofs.Ytflfiobicapopaa

/-- What the slot that comes next holds: an elder head, or none, torn by writes of the next Serial, however often. -/
def OldQ (Q : List UInt8) (s : Nat) (O : List UInt8) : Prop := O.length = 32 ∧
  ((∃ (P : List UInt8) (j : Nat), P.length = 8 ∧ j ≤ 8 ∧ P ≠ Q ∧ O.drop 24 = P ∧ O.take 8 = Q.take j ++ P.drop j ∧ (isHead O = true → (headOf O).s < s)) ∨ (O.take 8 = Q ∧ O.drop 24 ≠ Q))
def Old (h : HeadD) (O : List UInt8) : Prop := OldQ (eight (h.s + 1)) h.s O

theorem head_ends {b : List UInt8} (h : isHead b = true) : b.drop 24 = b.take 8 := by
  obtain ⟨hl, _, hs, _⟩ := isHead_iff.1 h
  have e1 : (b.drop 24).take 8 = b.take 8 := le_inj8 _ _ (by rw [List.length_take, List.length_take, List.length_drop]; omega) hs
  rwa [List.take_of_length_le (by rw [List.length_drop]; omega)] at e1
theorem Old.low {h : HeadD} {O : List UInt8} (hO : Old h O) : isHead O = true → (headOf O).s < h.s := by
  intro hi
  rcases hO.2 with ⟨P, j, _, _, _, _, _, hlow⟩ | ⟨h1, h2⟩
  · exact hlow hi
  · exact absurd ((head_ends hi).trans h1) h2
theorem Old.of_bytes {h y : HeadD} (hf : y.fits) (hr : y.right = true) (hs : y.s < h.s) (hb : h.s + 1 < 18446744073709551616) : Old h y.bytes :=
  ⟨y.bytes_len, .inl ⟨eight y.s, 0, eight_len _, Nat.zero_le _, fun e => by have := eight_inj (by omega) hb e; omega, bytes_ends y, by rw [bytes_front]; simp, fun _ => by rw [(read_bytes hf hr).2]; exact hs⟩⟩
theorem Old.noughts {h : HeadD} (hb : h.s + 1 < 18446744073709551616) : Old h (List.replicate 32 0) :=
  ⟨by simp, .inl ⟨eight 0, 0, eight_len _, Nat.zero_le _, fun e => by have := eight_inj (by decide) hb e; omega, rfl, rfl, fun hi => by rw [not_head_noughts] at hi; cases hi⟩⟩

theorem cut_mix {Q P : List UInt8} (hQ : Q.length = 8) {j k : Nat} (hj : j ≤ 8) : Q.take k ++ (Q.take j ++ P.drop j).drop k = Q.take (max k j) ++ P.drop (max k j) := by
  rcases Nat.le_total k j with h | h
  · rw [Nat.max_eq_right h, List.drop_append_of_le_length (by rw [List.length_take]; omega), ← List.append_assoc]
    congr 1
    have := List.take_append_drop k (Q.take j)
    rwa [List.take_take, Nat.min_eq_left h] at this
  · rw [Nat.max_eq_left h, List.drop_append]
    have e : (Q.take j).length = j := by rw [List.length_take]; omega
    rw [e, List.drop_of_length_le (by omega), List.nil_append, List.drop_drop, show j + (k - j) = k by omega]

/-- Torn once more. -/
theorem Old.torn {h N : HeadD} {O : List UInt8} (hO : Old h O) (hs : N.s = h.s + 1) {k : Nat} (hk : k ≤ 32) : N.bytes.take k ++ O.drop k = N.bytes ∨ Old h (N.bytes.take k ++ O.drop k) := by
  unfold Old at hO ⊢
  obtain ⟨hl, hor⟩ := hO
  have hN := N.bytes_len
  have q1 : N.bytes.take 8 = eight (h.s + 1) := by rw [bytes_front, hs]
  have q2 : N.bytes.drop 24 = eight (h.s + 1) := by rw [bytes_ends, q1]
  have hQ : (eight (h.s + 1)).length = 8 := eight_len _
  generalize eight (h.s + 1) = Q at *
  generalize N.bytes = B at *
  have hBk : (B.take k).length = k := by rw [List.length_take]; omega
  have hT : (B.take k ++ O.drop k).length = 32 := by rw [List.length_append, hBk, List.length_drop]; omega
  have t8 : 8 ≤ k → (B.take k ++ O.drop k).take 8 = Q := fun h8 => by
    rw [List.take_append_of_le_length (by omega), List.take_take, Nat.min_eq_left h8, q1]
  have t8' : k < 8 → (B.take k ++ O.drop k).take 8 = Q.take k ++ (O.take 8).drop k := fun h8 => by
    rw [List.take_append, hBk, List.take_take, Nat.min_eq_right (by omega), ← q1, List.take_take, Nat.min_eq_left (by omega), List.drop_take]
  have d24 : k ≤ 24 → (B.take k ++ O.drop k).drop 24 = O.drop 24 := fun h24 => by
    rw [List.drop_append, hBk, List.drop_of_length_le (by omega), List.nil_append, List.drop_drop, show k + (24 - k) = 24 by omega]
  have d24' : 24 < k → (B.take k ++ O.drop k).drop 24 = Q.take (k - 24) ++ O.drop k := fun h24 => by
    rw [List.drop_append_of_le_length (by omega), ← q2, List.take_drop, show 24 + (k - 24) = k by omega]
  have whole : 24 < k → (B.take k ++ O.drop k).drop 24 = Q → B.take k ++ O.drop k = B := fun h24 e => by
    rw [d24' h24] at e
    have e2 : O.drop k = Q.drop (k - 24) := by
      have h1 := List.take_append_drop (k - 24) Q
      exact List.append_cancel_left (e.trans h1.symm)
    rw [e2, ← q2, List.drop_drop, show 24 + (k - 24) = k by omega, List.take_append_drop]
  by_cases h24 : 24 < k
  · by_cases e : (B.take k ++ O.drop k).drop 24 = Q
    · exact .inl (whole h24 e)
    · exact .inr ⟨hT, .inr ⟨t8 (by omega), e⟩⟩
  · refine .inr ?_
    have hd := d24 (by omega)
    rcases hor with ⟨P, j, hP, hj, hne, hz, ha, hlow⟩ | ⟨ha, hz⟩
    · by_cases h8 : 8 ≤ k
      · exact ⟨hT, .inr ⟨t8 h8, by rw [hd, hz]; exact hne⟩⟩
      · have hf := t8' (by omega)
        rw [ha, cut_mix hQ hj] at hf
        refine ⟨hT, .inl ⟨P, max k j, hP, by omega, hne, by rw [hd, hz], hf, fun hi => ?_⟩⟩
        have he := head_ends hi
        rw [hd, hz, hf] at he
        -- the front is the elder one's
        have hm : P.take (max k j) = Q.take (max k j) := by
          have h1 := List.take_append_drop (max k j) P
          exact (List.append_inj (h1.trans he) (by rw [List.length_take, List.length_take]; omega)).1
        have hO : B.take k ++ O.drop k = O := by
          have e1 : B.take k = O.take k := by
            have e3 : B.take k = Q.take k := by rw [← q1, List.take_take, Nat.min_eq_left (by omega)]
            have e4 : O.take k = (O.take 8).take k := by rw [List.take_take, Nat.min_eq_left (by omega)]
            rw [e3, e4, ha]
            have e5 : Q.take j ++ P.drop j = P := by
              have h1 := List.take_append_drop j P
              rw [← h1]
              have h2 : P.take j = Q.take j := by
                have := congrArg (List.take j) hm
                rwa [List.take_take, List.take_take, Nat.min_eq_left (Nat.le_max_right k j)] at this
              rw [List.drop_append_of_le_length (by rw [List.length_take]; omega), List.drop_of_length_le (by rw [List.length_take]; omega), List.nil_append, ← h2]
            rw [e5]
            have := congrArg (List.take k) hm
            rw [List.take_take, List.take_take, Nat.min_eq_left (Nat.le_max_left k j)] at this
            exact this.symm
          rw [e1, List.take_append_drop]
        rw [hO] at hi ⊢
        exact hlow hi
    · have hf : (B.take k ++ O.drop k).take 8 = Q := by
        by_cases h8 : 8 ≤ k
        · exact t8 h8
        · rw [t8' (by omega), ha, List.take_append_drop]
      exact ⟨hT, .inr ⟨hf, by rw [hd]; exact hz⟩⟩

/-- The slots: the head h counts, and the other one may be written. -/
structure SG (A : AD) (h : HeadD) : Prop where
  fits : h.fits
  right : h.right = true
  at' : A.sh (h.s % 2) = h.bytes
  safe : ∀ i, i < 2 → A.sf i = A.sh i
  old : Old h (A.sh ((h.s + 1) % 2))
theorem SG.congr {A B : AD} {h : HeadD} (H : SG A h) (h1 : ∀ i, i < 2 → B.sh i = A.sh i) (h2 : ∀ i, i < 2 → B.sf i = A.sf i) : SG B h :=
  ⟨H.fits, H.right, by rw [h1 _ (Nat.mod_lt _ (by decide))]; exact H.at', fun i hi => by rw [h1 i hi, h2 i hi]; exact H.safe i hi, by rw [h1 _ (Nat.mod_lt _ (by decide))]; exact H.old⟩
theorem SG.load {A : AD} {h : HeadD} (H : SG A h) (hd : A.dead = false) : loadE A = 0 ∧ loadH A = h := load_some hd (pick_at H.fits H.right H.at' fun hi _ => H.old.low hi)
theorem SG.l {A : AD} {h : HeadD} (H : SG A h) : h.l ≤ 1 := (HeadD.right_iff.1 H.right).2

/-- What a save leaves: of all else nothing changes; the new head counts, or, where it died, behind a crash the new one, or the one that was. -/
structure Saved (A B : AD) (h N : HeadD) (E : Int) : Prop where
  x : B.x = A.x
  seg : B.safe = A.safe
  cap : B.cap = A.cap
  ok : E = 0 → B.dead = false ∧ SG B N
  ko : E ≠ 0 → E = 3 ∧ B.dead = true ∧ ∀ a b c d, SG (B.crashed (kp a b c d)) h ∨ SG (B.crashed (kp a b c d)) N
  calm : A.calls = -1 → E = 0 ∧ B.calls = -1

theorem crashed_sl (A : AD) (a b c d : Int) (j : Nat) (hj : j < 2) : ∃ k, k ≤ 32 ∧ (A.crashed (kp a b c d)).sh j = (A.sh j).take k ++ (A.sf j).drop k ∧ (A.crashed (kp a b c d)).sf j = (A.sh j).take k ++ (A.sf j).drop k := by
  obtain ⟨k, h1, _, h3, h4⟩ := crashed_slots A a b c d j hj
  exact ⟨k, h1, h3, h4⟩
theorem SG.crash {A : AD} {h : HeadD} (H : SG A h) (a b c d : Int) : SG (A.crashed (kp a b c d)) h := by
  have e : ∀ j, j < 2 → (A.crashed (kp a b c d)).sh j = A.sh j ∧ (A.crashed (kp a b c d)).sf j = A.sf j := fun j hj => by
    obtain ⟨k, _, e1, e2⟩ := crashed_sl A a b c d j hj
    rw [e1, e2, H.safe j hj, take_drop_same]
    exact ⟨rfl, rfl⟩
  exact H.congr (fun j hj => (e j hj).1) fun j hj => (e j hj).2

theorem save_any {A : AD} {h X : HeadD} (H : SG A h) (hd : A.dead = false) (hs : X.s = h.s) (hf : X.fits) (hl : X.l ≤ 1) (hb : h.s + 2 < 18446744073709551616) : Saved A (saveD A X) h X.next (saveE A X) := by
  have hs1 : X.next.s = h.s + 1 := by rw [HeadD.next_s (by omega), hs]
  have hr : X.next.right = true := HeadD.next_right (by omega) hl
  have hfn : X.next.fits := HeadD.next_fits hf
  have hi : X.next.s % 2 < 2 := Nat.mod_lt _ (by decide)
  have hj : h.s % 2 < 2 := Nat.mod_lt _ (by decide)
  have hij : h.s % 2 ≠ X.next.s % 2 := by omega
  have eN : (h.s + 1) % 2 = X.next.s % 2 := by omega
  have eP : (X.next.s + 1) % 2 = h.s % 2 := by omega
  have hold : Old h (A.sh (X.next.s % 2)) := by rw [← eN]; exact H.old
  have hbo : Old X.next h.bytes := Old.of_bytes H.fits H.right (by omega) (by omega)
  by_cases c0 : A.calls = 0
  · have c1 : chE A = 3 := by simp [chE, hd, c0]
    have w1 : wrA A (X.next.s % 2) X.next.bytes = { A with dead := true } := by simp [wrA, hd, c0]
    have hE : saveE A X = 3 := by simp [saveE, hr, c1]
    have hD : saveD A X = { A with dead := true } := by simp [saveD, hr, c1, w1]
    rw [hE, hD]
    exact ⟨rfl, rfl, rfl, fun e => (by cases e), fun _ => ⟨rfl, rfl, fun a b c d => .inl (SG.crash (H.congr (B := { A with dead := true }) (fun _ _ => rfl) fun _ _ => rfl) a b c d)⟩, fun e => by rw [c0] at e; cases e⟩
  · have c1 : chE A = 0 := by simp [chE, hd, c0]
    have w1 : wrA A (X.next.s % 2) X.next.bytes = A.tick.wrote (X.next.s % 2) X.next.bytes := by simp [wrA, hd, c0]
    have d1 : (A.tick.wrote (X.next.s % 2) X.next.bytes).dead = false := hd
    have sh1 : ∀ j, (A.tick.wrote (X.next.s % 2) X.next.bytes).sh j = if j = X.next.s % 2 then X.next.bytes else A.sh j := fun j => rfl
    by_cases c2 : (A.tick.wrote (X.next.s % 2) X.next.bytes).calls = 0
    · have c3 : chE (A.tick.wrote (X.next.s % 2) X.next.bytes) = 3 := by simp [chE, d1, c2]
      have s2 : shA (A.tick.wrote (X.next.s % 2) X.next.bytes) = { A.tick.wrote (X.next.s % 2) X.next.bytes with dead := true } := by simp [shA, d1, c2]
      have hE : saveE A X = 3 := by simp [saveE, hr, c1, w1, c3]
      have hD : saveD A X = { A.tick.wrote (X.next.s % 2) X.next.bytes with dead := true } := by simp only [saveD, hr, c1, w1, s2, if_true]
      rw [hE, hD]
      refine ⟨rfl, rfl, rfl, fun e => (by cases e), fun _ => ⟨rfl, rfl, fun a b c d => ?_⟩, fun e => ?_⟩
      · obtain ⟨k, hk, e1, e2⟩ := crashed_sl { A.tick.wrote (X.next.s % 2) X.next.bytes with dead := true } a b c d _ hi
        obtain ⟨k', _, e1', e2'⟩ := crashed_sl { A.tick.wrote (X.next.s % 2) X.next.bytes with dead := true } a b c d _ hj
        generalize ({ A.tick.wrote (X.next.s % 2) X.next.bytes with dead := true } : AD).crashed (kp a b c d) = C at *
        have f1 : C.sh (X.next.s % 2) = X.next.bytes.take k ++ (A.sh (X.next.s % 2)).drop k := by
          rw [e1]
          show ((A.tick.wrote (X.next.s % 2) X.next.bytes).sh (X.next.s % 2)).take k ++ (A.sf (X.next.s % 2)).drop k = _
          rw [sh1, if_pos rfl, H.safe _ hi]
        have f2 : C.sf (X.next.s % 2) = C.sh (X.next.s % 2) := by rw [e1, e2]
        have f3 : C.sh (h.s % 2) = h.bytes := by
          rw [e1']
          show ((A.tick.wrote (X.next.s % 2) X.next.bytes).sh (h.s % 2)).take k' ++ (A.sf (h.s % 2)).drop k' = _
          rw [sh1, if_neg hij, H.safe _ hj, take_drop_same, H.at']
        have f4 : C.sf (h.s % 2) = C.sh (h.s % 2) := by rw [e1', e2']
        have f5 : ∀ i, i < 2 → C.sf i = C.sh i := fun i h2 => by
          rcases (show i = X.next.s % 2 ∨ i = h.s % 2 by omega) with e | e
          · rw [e]; exact f2
          · rw [e]; exact f4
        rcases hold.torn (N := X.next) hs1 hk with e | e
        · right
          exact ⟨hfn, hr, by rw [f1, e], f5, by rw [eP, f3]; exact hbo⟩
        · left
          exact ⟨H.fits, H.right, f3, f5, by rw [eN, f1]; exact e⟩
      · have : (A.tick.wrote (X.next.s % 2) X.next.bytes).calls = -1 := tick_calm e
        rw [c2] at this; cases this
    · have c3 : chE (A.tick.wrote (X.next.s % 2) X.next.bytes) = 0 := by simp [chE, d1, c2]
      have s2 : shA (A.tick.wrote (X.next.s % 2) X.next.bytes) = (A.tick.wrote (X.next.s % 2) X.next.bytes).tick.syncedHead := by simp [shA, d1, c2]
      have hE : saveE A X = 0 := by simp [saveE, hr, c1, w1, c3]
      have hD : saveD A X = (A.tick.wrote (X.next.s % 2) X.next.bytes).tick.syncedHead := by simp only [saveD, hr, c1, w1, s2, if_true]
      rw [hE, hD]
      have S := saved_slots A (X.next.s % 2) X.next.bytes
      refine ⟨rfl, rfl, rfl, fun _ => ⟨hd, hfn, hr, ?_, fun i h2 => by rw [(S i h2).1, (S i h2).2], ?_⟩, fun e => (e rfl).elim, fun e => ⟨rfl, tick_calm (A := A.tick.wrote _ _) (tick_calm e)⟩⟩
      · rw [(S _ hi).1, if_pos rfl]
      · rw [eP, (S _ hj).1, if_neg hij, H.at']; exact hbo
end Go.Proofs.Ytflfiobicapopaa

namespace Go.Proofs.Ytflfiobicapopaa

/-- What is safe is no more than what is there. -/
def Le (A : AD) : Prop := ∀ i, i < 2 → A.safe i ≤ (A.x i).length
/-- All is safe. -/
def Full (A : AD) : Prop := ∀ i, i < 2 → A.safe i = (A.x i).length
theorem Full.le {A : AD} (h : Full A) : Le A := fun i hi => Nat.le_of_eq (h i hi)

theorem crashed_seg (A : AD) (a b c d : Int) (i : Nat) (hi : i < 2) : ∃ q, q ≤ (A.x i).length - A.safe i ∧ (A.crashed (kp a b c d)).x i = (A.x i).take (A.safe i + q) ∧ (A.crashed (kp a b c d)).safe i = A.safe i + q := by
  rcases (show i = 0 ∨ i = 1 by omega) with rfl | rfl
  · exact ⟨_, keepN_le _ _, rfl, rfl⟩
  · exact ⟨_, keepN_le _ _, rfl, rfl⟩
/-- Behind a crash all is safe, the disk lives, and it has no fuse. -/
structure Fresh' (C : AD) : Prop where
  full : Full C
  live : C.dead = false
  calls : C.calls = -1
theorem crashed_fresh {A : AD} (h : Le A) (a b c d : Int) : Fresh' (A.crashed (kp a b c d)) := by
  refine ⟨fun i hi => ?_, rfl, rfl⟩
  obtain ⟨q, h1, h2, h3⟩ := crashed_seg A a b c d i hi
  have := h i hi
  rw [h2, h3, List.length_take]; omega
theorem crashed_full {A : AD} (i : Nat) (hi : i < 2) (h : A.safe i = (A.x i).length) (a b c d : Int) : (A.crashed (kp a b c d)).x i = A.x i := by
  obtain ⟨q, h1, h2, _⟩ := crashed_seg A a b c d i hi
  rw [h2, List.take_of_length_le (by omega)]

/-- A disk that lives, whose journal is l, under the head h. -/
structure St (A : AD) (h : HeadD) (l : List (List (List UInt8))) : Prop where
  live : A.dead = false
  sg : SG A h
  okr : ∀ rows ∈ l, okRows rows
  seg : ∃ r x, A.x h.l = bputs l ++ r ∧ ScanIs r [] 0 x
  safe : (bputs l).length ≤ A.safe h.l
  le : Le A
/-- The same, of a journal that is open. -/
structure Run (A : AD) (h : HeadD) (l : List (List (List UInt8))) : Prop where
  live : A.dead = false
  sg : SG A h
  okr : ∀ rows ∈ l, okRows rows
  here : A.x h.l = bputs l
  other : A.x (1 - h.l) = []
  full : Full A
section
variable {A B : AD} {h : HeadD} {l : List (List (List UInt8))}
theorem Run.st (H : Run A h l) : St A h l :=
  ⟨H.live, H.sg, H.okr, ⟨[], 0, by rw [H.here, List.append_nil], scan_nil⟩, by rw [H.full _ (by have := H.sg.l; omega), H.here]; exact Nat.le_refl _, H.full.le⟩
theorem St.scan (H : St A h l) : ∃ x, ScanIs (A.x h.l) l (bputs l).length x := by
  obtain ⟨r, x, e, hs⟩ := H.seg
  have := scan_behind H.okr hs
  rw [List.append_nil, Nat.add_zero] at this
  exact ⟨x, by rw [e]; exact this⟩
theorem St.l2 (H : St A h l) : h.l < 2 := by have := H.sg.l; omega
/-- What does not touch what is there. -/
theorem St.same (H : St A h l) (hd : B.dead = false) (hx : B.x = A.x) (hs : B.safe = A.safe) (h1 : B.sh = A.sh) (h2 : B.sf = A.sf) : St B h l :=
  ⟨hd, H.sg.congr (fun i _ => by rw [h1]) (fun i _ => by rw [h2]), H.okr, by rw [hx]; exact H.seg, by rw [hs]; exact H.safe, fun i hi => by rw [hx, hs]; exact H.le i hi⟩
theorem Run.same (H : Run A h l) (hd : B.dead = false) (hx : B.x = A.x) (hs : B.safe = A.safe) (h1 : B.sh = A.sh) (h2 : B.sf = A.sf) : Run B h l :=
  ⟨hd, H.sg.congr (fun i _ => by rw [h1]) (fun i _ => by rw [h2]), H.okr, by rw [hx]; exact H.here, by rw [hx]; exact H.other, fun i hi => by rw [hx, hs]; exact H.full i hi⟩
theorem St.fuse (H : St A h l) (c k : Int) : St (fuD A c k) h l := by
  have e : fuD A c k = A.fused c k := by simp [fuD, H.live]
  rw [e]; exact H.same H.live rfl rfl rfl rfl
theorem Run.fuse (H : Run A h l) (c k : Int) : Run (fuD A c k) h l := by
  have e : fuD A c k = A.fused c k := by simp [fuD, H.live]
  rw [e]; exact H.same H.live rfl rfl rfl rfl
theorem fuse_calls (hd : A.dead = false) (c k : Int) : (fuD A c k).calls = max c (-1) := by simp [fuD, hd, AD.fused]
theorem fuse_cap (c k : Int) : (fuD A c k).cap = A.cap := by unfold fuD; split <;> rfl
/-- A crash where what is to count is safe. -/
theorem St.crash {a b c d : Int} (sg : SG (B.crashed (kp a b c d)) h) (okr : ∀ rows ∈ l, okRows rows) (hx : B.x h.l = bputs l) (hs : B.safe h.l = (B.x h.l).length) (le : Le B) : St (B.crashed (kp a b c d)) h l := by
  have hl : h.l < 2 := by have := sg.l; omega
  have e := crashed_full h.l hl hs a b c d
  have F := crashed_fresh le a b c d
  exact ⟨rfl, sg, okr, ⟨[], 0, by rw [e, hx, List.append_nil], scan_nil⟩, by rw [F.full _ hl, e, hx]; exact Nat.le_refl _, F.full.le⟩
/-- The same, with what was behind. -/
theorem St.crashR (H : St A h l) (F : Full A) (hx : B.x = A.x) (hs : B.safe = A.safe) (h1 : B.sh = A.sh) (h2 : B.sf = A.sf) (a b c d : Int) : St (B.crashed (kp a b c d)) h l := by
  have FB : Full B := fun i hi => by rw [hx, hs]; exact F i hi
  have hl := H.l2
  have e := crashed_full h.l hl (FB _ hl) a b c d
  have FC := crashed_fresh FB.le a b c d
  obtain ⟨r, x, er, hr⟩ := H.seg
  refine ⟨rfl, SG.crash (H.sg.congr (fun i _ => by rw [h1]) fun i _ => by rw [h2]) a b c d, H.okr, ⟨r, x, by rw [e, hx]; exact er, hr⟩, ?_, FC.full.le⟩
  rw [FC.full _ hl, e, hx, er, List.length_append]; omega
end

/-- What shorten leaves of a disk that lives. -/
structure Sn (A B : AD) (i n : Nat) (E : Int) : Prop where
  sh : B.sh = A.sh
  sf : B.sf = A.sf
  cap : B.cap = A.cap
  ok : E = 0 → B.dead = false ∧ B.x = upd A.x i ((A.x i).take n) ∧ B.safe = upd A.safe i (min (A.safe i) n)
  ko : E ≠ 0 → E = 3 ∧ B.dead = true ∧ B.x = A.x ∧ B.safe = A.safe
  calm : A.calls = -1 → E = 0 ∧ B.calls = -1
theorem upd_id {α : Type} (f : Nat → α) (i : Nat) : upd f i (f i) = f := by
  funext j; unfold upd; split
  · rename_i e; rw [e]
  · rfl
theorem shorten_any {A : AD} (hd : A.dead = false) (i n : Nat) (hle : A.safe i ≤ (A.x i).length) : Sn A (snD A i n) i n (snE A i n) := by
  have hr : rdX A i = A.x i := by simp [rdX, hd]
  by_cases hn : (A.x i).length ≤ n
  · have e1 : snE A i n = 0 := by rw [snE, hr, if_pos hn]
    have e2 : snD A i n = A := by rw [snD, hr, if_pos hn]
    rw [e1, e2]
    exact ⟨rfl, rfl, rfl, fun _ => ⟨hd, by rw [List.take_of_length_le hn, upd_id], by rw [Nat.min_eq_left (by omega), upd_id]⟩, fun e => (e rfl).elim, fun e => ⟨rfl, e⟩⟩
  · have e1 : snE A i n = chE A := by rw [snE, hr, if_neg hn]
    have e2 : snD A i n = trD A i n := by rw [snD, hr, if_neg hn]
    rw [e1, e2]
    by_cases hc : A.calls = 0
    · have c1 : chE A = 3 := by simp [chE, hd, hc]
      have c2 : trD A i n = { A with dead := true } := by simp [trD, hd, hc]
      rw [c1, c2]
      exact ⟨rfl, rfl, rfl, fun e => (by cases e), fun _ => ⟨rfl, rfl, rfl, rfl⟩, fun e => (by rw [hc] at e; cases e)⟩
    · have c1 : chE A = 0 := by simp [chE, hd, hc]
      have c2 : trD A i n = A.tick.cut i n := by simp [trD, hd, hc]
      rw [c1, c2]
      exact ⟨rfl, rfl, rfl, fun _ => ⟨hd, rfl, rfl⟩, fun e => (e rfl).elim, fun e => ⟨rfl, tick_calm e⟩⟩

/-- What a batch, appended and synced, leaves of a disk that lives. -/
structure Pu (A B : AD) (i : Nat) (b : List UInt8) (E : Int) : Prop where
  sh : B.sh = A.sh
  sf : B.sf = A.sf
  cap : B.cap = A.cap
  ok : E = 0 → B.dead = false ∧ B.x = upd A.x i (A.x i ++ b) ∧ B.safe = upd A.safe i (A.x i ++ b).length
  full : A.cap < ((A.x 0).length : Int) + (A.x 1).length + b.length → E = 5 ∧ B = A
  ko : ¬ A.cap < ((A.x 0).length : Int) + (A.x 1).length + b.length → E ≠ 0 → E = 3 ∧ B.dead = true ∧ B.safe = A.safe ∧ ∃ t, B.x = upd A.x i (A.x i ++ b.take t)
  calm : ¬ A.cap < ((A.x 0).length : Int) + (A.x 1).length + b.length → A.calls = -1 → E = 0
  still : A.calls = -1 → B.calls = -1
theorem put_any {A : AD} (hd : A.dead = false) (i : Nat) (b : List UInt8) : Pu A (puD A i b) i b (puE A i b) := by
  by_cases hf : A.cap < ((A.x 0).length : Int) + (A.x 1).length + b.length
  · have e0 : apE A b.length = 5 := by simp only [apE, hd, if_pos hf]; rfl
    have e1 : puE A i b = 5 := by rw [puE, if_neg (by rw [e0]; decide), e0]
    have e2 : puD A i b = A := by rw [puD, if_neg (by rw [e0]; decide)]; simp only [apD, hd, if_pos hf]; rfl
    rw [e1, e2]
    exact ⟨rfl, rfl, rfl, fun e => (by cases e), fun _ => ⟨rfl, rfl⟩, fun e => (e hf).elim, fun e => (e hf).elim, fun e => e⟩
  · by_cases hc : A.calls = 0
    · have e0 : apE A b.length = 3 := by simp only [apE, hd, if_neg hf, if_pos hc]; rfl
      have e1 : puE A i b = 3 := by rw [puE, if_neg (by rw [e0]; decide), e0]
      have e2 : puD A i b = A.killed i b := by rw [puD, if_neg (by rw [e0]; decide)]; simp only [apD, hd, if_neg hf, if_pos hc]; rfl
      rw [e1, e2]
      exact ⟨rfl, rfl, rfl, fun e => (by cases e), fun e => (hf e).elim, fun _ _ => ⟨rfl, rfl, rfl, _, rfl⟩, fun _ e => (by rw [hc] at e; cases e), fun e => (by rw [hc] at e; cases e)⟩
    · have e0 : apE A b.length = 0 := by simp only [apE, hd, if_neg hf, if_neg hc]; rfl
      have e3 : apD A i b = { A.tick with x := upd A.x i (A.x i ++ b) } := by simp only [apD, hd, if_neg hf, if_neg hc]; rfl
      have e1 : puE A i b = chE (apD A i b) := if_pos e0
      have e2 : puD A i b = syD (apD A i b) i := if_pos e0
      rw [e1, e2, e3]
      by_cases hc2 : A.tick.calls = 0
      · have c1 : chE { A.tick with x := upd A.x i (A.x i ++ b) } = 3 := by unfold chE; rw [if_neg (by show ¬ A.dead = true; rw [hd]; decide), if_pos hc2]
        have c2 : syD { A.tick with x := upd A.x i (A.x i ++ b) } i = { A.tick with x := upd A.x i (A.x i ++ b), dead := true } := by unfold syD; rw [if_neg (by show ¬ A.dead = true; rw [hd]; decide), if_pos hc2]
        rw [c1, c2]
        exact ⟨rfl, rfl, rfl, fun e => (by cases e), fun e => (hf e).elim, fun _ _ => ⟨rfl, rfl, rfl, b.length, by rw [List.take_length]⟩, fun _ e => (by rw [tick_calm e] at hc2; cases hc2), fun e => (by rw [tick_calm e] at hc2; cases hc2)⟩
      · have c1 : chE { A.tick with x := upd A.x i (A.x i ++ b) } = 0 := by unfold chE; rw [if_neg (by show ¬ A.dead = true; rw [hd]; decide), if_neg hc2]
        have c2 : syD { A.tick with x := upd A.x i (A.x i ++ b) } i = ({ A.tick with x := upd A.x i (A.x i ++ b) } : AD).tick.synced i := by unfold syD; rw [if_neg (by show ¬ A.dead = true; rw [hd]; decide), if_neg hc2]
        rw [c1, c2]
        refine ⟨rfl, rfl, rfl, fun _ => ⟨hd, rfl, ?_⟩, fun e => (hf e).elim, fun _ e => (e rfl).elim, fun _ _ => rfl, fun e => tick_calm (A := { A.tick with x := upd A.x i (A.x i ++ b) }) (tick_calm e)⟩
        show upd A.safe i (upd A.x i (A.x i ++ b) i).length = _
        rw [upd_same]
end Go.Proofs.Ytflfiobicapopaa
