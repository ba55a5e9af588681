/- JourClos2, JourFormat, JourAppend, JourSwitch: our own definitions and contracts; no statement of the seat is proved here. -/
import Derived.Test.YtflfiobicapopaaBase11
import Derived.Deep.RegionHeld3
namespace Go.Proofs.Ytflfiobicapopaa
open Go.RowKit

section
variable {w W W2 : World} {L : List (Value × Thing)} {M : List (Nat × Obj)} {p : Nat} {A A' : AD} {jb sb bb db hb nb g b : Nat} {t1 t2 t3 t4 : TypeId} {hd : HeadD}
theorem Kj.drew1 (h : Kj w W L M p A) : Kj w W.drew L M p A := h.later ⟨rfl, rfl, rfl, Nat.le_refl _, fun _ _ => rfl⟩
theorem live_below (s e l : Nat) (hl : l < 256) (w : World) : Calls Try.prog 35 #[.agg #[.int .u64 ((s : Nat) : Int), .int .u64 ((e : Nat) : Int), .int .u8 ((l : Nat) : Int)]] w fun x w' => x = .returned (.int .i64 ((l : Nat) : Int)) ∧ Below w.heap.size w w' :=
  (live_any s e l hl w).mono fun _ _ ⟨hx, hw⟩ => ⟨hx, by rw [hw]; exact (Below.refl _ w).alloc (Nat.le_refl _) _⟩
theorem kept_cell {E : Int} {i j : Nat} {x : Nat × Obj} (h1 : E ≠ 0 → Kj w W2 L M p A') (h2 : E = 0 → Kj w W2 L (M.set i x) p A') {cs : Array Value} {t : TypeId} (hj : M[j]? = some (b, Obj.cells cs t (0, 0))) (hne : j ≠ i) (k : Nat) : W2.cell? ⟨b, k, none⟩ = cs[k]? := by
  by_cases hE : E = 0
  · exact (h2 hE).cell (List.mem_of_getElem? (i := j) (by rw [List.getElem?_set_ne (fun e => hne e.symm)]; exact hj)) k
  · exact (h1 hE).cell (List.mem_of_getElem? hj) k
theorem kept_disk {E : Int} {i : Nat} {h' : HeadD} (h1 : E ≠ 0 → Kj w W2 L M p A') (h2 : E = 0 → Kj w W2 L (M.set i (g, Obj.cells (keptAt (jCells g p hd) 2 h') t4 (0, 0))) p A') (hi : M[i]? = some (g, Obj.cells (jCells g p hd) t4 (0, 0))) : W2.cell? ⟨g, 1, none⟩ = some (.pointer (some ⟨p, 0, none⟩)) := by
  by_cases hE : E = 0
  · exact (h2 hE).cell (List.mem_of_getElem? (i := i) (set_get hi)) 1
  · exact (h1 hE).cell (List.mem_of_getElem? hi) 1

theorem enters_clos_switch3 (args : Array Value) (w : World) : (callFunc 41 args).run Try.prog w = .ok (.enter 41 args) w := enters_of Try.func41 (by kernel_rfl) rfl args w
set_option maxRecDepth 100000 in
set_option maxHeartbeats 2000000 in
theorem clos_switch3 (h : Kj w W L M p A) (s e l : Nat) (hf : (HeadD.mk s e l).fits) (i i1 i2 : Nat) (n1 : i1 ≠ i) (n2 : i2 ≠ i) (hj : M[i1]? = some (jb, Obj.cells #[.pointer (some ⟨g, 0, none⟩)] t1 (0, 0))) (hn : M[i2]? = some (nb, Obj.cells #[.int .u64 ((s : Nat) : Int), .int .u64 ((e : Nat) : Int), .int .u8 ((l : Nat) : Int)] t2 (0, 0))) (hg : M[i]? = some (g, Obj.cells (jCells g p hd) t4 (0, 0))) :
    Calls Try.prog 41 #[.pointer (some ⟨jb, 0, none⟩), .pointer (some ⟨nb, 0, none⟩)] W fun x W' => x = .returned (.int .i64 (saveE A ⟨s, e, l⟩)) ∧ (saveE A ⟨s, e, l⟩ ≠ 0 → Kj w W' L M p (saveD A ⟨s, e, l⟩)) ∧ (saveE A ⟨s, e, l⟩ = 0 → Kj w W' L (M.set i (g, Obj.cells (jCells g p (HeadD.mk s e l).next) t4 (0, 0))) p (saveD A ⟨s, e, l⟩)) := by
  have HK := hide h
  have HF := hide hf
  have HJ := hide hj
  have HN := hide hn
  have HG := hide hg
  have c0 : W.cell? ⟨jb, 0, none⟩ = some (.pointer (some ⟨g, 0, none⟩)) := h.cell (List.mem_of_getElem? hj) 0
  have c1 : W.cell? ⟨nb, 0, none⟩ = some (.int .u64 ((s : Nat) : Int)) := h.cell (List.mem_of_getElem? hn) 0
  have c2 : W.cell? ⟨nb, 1, none⟩ = some (.int .u64 ((e : Nat) : Int)) := h.cell (List.mem_of_getElem? hn) 1
  have c3 : W.cell? ⟨nb, 2, none⟩ = some (.int .u8 ((l : Nat) : Int)) := h.cell (List.mem_of_getElem? hn) 2
  have c4 : W.cell? ⟨g, 1, none⟩ = some (.pointer (some ⟨p, 0, none⟩)) := h.cell (List.mem_of_getElem? hg) 1
  clear h hf hj hn hg
  go_enter Try.func41, Try.ntmps41
  go_wp2_with fail
  go_region_held3 (fun w' => w'.cell? ⟨jb, 0, none⟩ = some (.pointer (some ⟨g, 0, none⟩)) ∧ w'.cell? ⟨nb, 0, none⟩ = some (.int .u64 ((s : Nat) : Int)) ∧ w'.cell? ⟨nb, 1, none⟩ = some (.int .u64 ((e : Nat) : Int)) ∧ w'.cell? ⟨nb, 2, none⟩ = some (.int .u8 ((l : Nat) : Int)) ∧ w'.cell? ⟨g, 1, none⟩ = some (.pointer (some ⟨p, 0, none⟩))) (go_keep)
    (first | (go_at_call 42; refine (kjKeep ((unhide HK).drewN _) s e l (unhide HF) i (unhide HG) (.inr rfl) _ _ _ rfl rfl rfl).mono ?_; rintro x W2 ⟨rfl, k1, k2⟩; have K1 := hide k1; have K2 := hide k2; clear k1 k2; have q0 : W2.cell? ⟨jb, 0, none⟩ = some (.pointer (some ⟨g, 0, none⟩)) := kept_cell (unhide K1) (unhide K2) (unhide HJ) n1 0; have q1 : W2.cell? ⟨nb, 0, none⟩ = some (.int .u64 ((s : Nat) : Int)) := kept_cell (unhide K1) (unhide K2) (unhide HN) n2 0; have q2 : W2.cell? ⟨nb, 1, none⟩ = some (.int .u64 ((e : Nat) : Int)) := kept_cell (unhide K1) (unhide K2) (unhide HN) n2 1; have q3 : W2.cell? ⟨nb, 2, none⟩ = some (.int .u8 ((l : Nat) : Int)) := kept_cell (unhide K1) (unhide K2) (unhide HN) n2 2; have q4 : W2.cell? ⟨g, 1, none⟩ = some (.pointer (some ⟨p, 0, none⟩)) := kept_disk (unhide K1) (unhide K2) (unhide HG)))
  go_wp2
  go_ret
  exact ⟨rfl, unhide K1, unhide K2⟩

theorem enters_clos_format3 (args : Array Value) (w : World) : (callFunc 69 args).run Try.prog w = .ok (.enter 69 args) w := enters_of Try.func69 (by kernel_rfl) rfl args w
set_option maxRecDepth 100000 in
set_option maxHeartbeats 2000000 in
theorem clos_format3 (h : Kj w W L M p A) (s e l : Nat) (hf : (HeadD.mk s e l).fits) (i : Nat) (hj : (db, Obj.cells #[.pointer (some ⟨p, 0, none⟩)] t1 (0, 0)) ∈ M) (hn : M[i]? = some (nb, Obj.cells #[.int .u64 ((s : Nat) : Int), .int .u64 ((e : Nat) : Int), .int .u8 ((l : Nat) : Int)] t2 (0, 0))) :
    Calls Try.prog 69 #[.pointer (some ⟨db, 0, none⟩), .pointer (some ⟨nb, 0, none⟩)] W fun x W' => x = .returned (.int .i64 (saveE A ⟨s, e, l⟩)) ∧ (saveE A ⟨s, e, l⟩ ≠ 0 → Kj w W' L M p (saveD A ⟨s, e, l⟩)) ∧ (saveE A ⟨s, e, l⟩ = 0 → Kj w W' L (M.set i (nb, Obj.cells #[.int .u64 (((HeadD.mk s e l).next.s : Nat) : Int), .int .u64 (((HeadD.mk s e l).next.e : Nat) : Int), .int .u8 (((HeadD.mk s e l).next.l : Nat) : Int)] t2 (0, 0))) p (saveD A ⟨s, e, l⟩)) := by
  have HK := hide h
  have HF := hide hf
  have HN := hide hn
  have c0 : W.cell? ⟨db, 0, none⟩ = some (.pointer (some ⟨p, 0, none⟩)) := h.cell hj 0
  have c1 : W.cell? ⟨nb, 0, none⟩ = some (.int .u64 ((s : Nat) : Int)) := h.cell (List.mem_of_getElem? hn) 0
  have c2 : W.cell? ⟨nb, 1, none⟩ = some (.int .u64 ((e : Nat) : Int)) := h.cell (List.mem_of_getElem? hn) 1
  have c3 : W.cell? ⟨nb, 2, none⟩ = some (.int .u8 ((l : Nat) : Int)) := h.cell (List.mem_of_getElem? hn) 2
  clear h hf hn hj
  go_enter Try.func69, Try.ntmps69
  go_wp2_with fail
  refine (kjKeep (unhide HK) s e l (unhide HF) i (unhide HN) (.inl rfl) _ _ _ rfl rfl rfl).mono ?_
  rintro x W2 ⟨rfl, k1, k2⟩
  have K1 := hide k1
  have K2 := hide k2
  clear k1 k2
  go_wp2_with fail
  go_ret
  exact ⟨rfl, unhide K1, unhide K2⟩

theorem enters_clos_open3 (args : Array Value) (w : World) : (callFunc 54 args).run Try.prog w = .ok (.enter 54 args) w := enters_of Try.func54 (by kernel_rfl) rfl args w
set_option maxRecDepth 100000 in
set_option maxHeartbeats 2000000 in
theorem clos_open3 (h : Kj w W L M p A) (s e l : Nat) (hf : (HeadD.mk s e l).fits) (i : Nat) (hj : (db, Obj.cells #[.pointer (some ⟨p, 0, none⟩)] t1 (0, 0)) ∈ M) (hn : M[i]? = some (nb, Obj.cells #[.int .u64 ((s : Nat) : Int), .int .u64 ((e : Nat) : Int), .int .u8 ((l : Nat) : Int)] t2 (0, 0))) :
    Calls Try.prog 54 #[.pointer (some ⟨db, 0, none⟩), .pointer (some ⟨nb, 0, none⟩)] W fun x W' => x = .returned (.int .i64 (saveE A ⟨s, e, l⟩)) ∧ (saveE A ⟨s, e, l⟩ ≠ 0 → Kj w W' L M p (saveD A ⟨s, e, l⟩)) ∧ (saveE A ⟨s, e, l⟩ = 0 → Kj w W' L (M.set i (nb, Obj.cells #[.int .u64 (((HeadD.mk s e l).next.s : Nat) : Int), .int .u64 (((HeadD.mk s e l).next.e : Nat) : Int), .int .u8 (((HeadD.mk s e l).next.l : Nat) : Int)] t2 (0, 0))) p (saveD A ⟨s, e, l⟩)) := by
  have HK := hide h
  have HF := hide hf
  have HN := hide hn
  have c0 : W.cell? ⟨db, 0, none⟩ = some (.pointer (some ⟨p, 0, none⟩)) := h.cell hj 0
  have c1 : W.cell? ⟨nb, 0, none⟩ = some (.int .u64 ((s : Nat) : Int)) := h.cell (List.mem_of_getElem? hn) 0
  have c2 : W.cell? ⟨nb, 1, none⟩ = some (.int .u64 ((e : Nat) : Int)) := h.cell (List.mem_of_getElem? hn) 1
  have c3 : W.cell? ⟨nb, 2, none⟩ = some (.int .u8 ((l : Nat) : Int)) := h.cell (List.mem_of_getElem? hn) 2
  clear h hf hn hj
  go_enter Try.func54, Try.ntmps54
  go_wp2_with fail
  refine (kjKeep (unhide HK) s e l (unhide HF) i (unhide HN) (.inl rfl) _ _ _ rfl rfl rfl).mono ?_
  rintro x W2 ⟨rfl, k1, k2⟩
  have K1 := hide k1
  have K2 := hide k2
  clear k1 k2
  go_wp2_with fail
  go_ret
  exact ⟨rfl, unhide K1, unhide K2⟩

theorem enters_clos_format1 (args : Array Value) (w : World) : (callFunc 67 args).run Try.prog w = .ok (.enter 67 args) w := enters_of Try.func67 (by kernel_rfl) rfl args w
set_option maxRecDepth 100000 in
set_option maxHeartbeats 2000000 in
theorem clos_format1 (h : Kj w W L M p A) (hj : (db, Obj.cells #[.pointer (some ⟨p, 0, none⟩)] t1 (0, 0)) ∈ M) : Calls Try.prog 67 #[.pointer (some ⟨db, 0, none⟩)] W fun x W' => x = .returned (.int .i64 (snE A 0 0)) ∧ Kj w W' L M p (snD A 0 0) := by
  have HK := hide h
  have c0 : W.cell? ⟨db, 0, none⟩ = some (.pointer (some ⟨p, 0, none⟩)) := h.cell hj 0
  clear h hj
  go_enter Try.func67, Try.ntmps67
  go_wp2_with fail
  refine (kjShorten (unhide HK) 0 (by decide) 0).mono ?_
  rintro x W2 ⟨rfl, hk⟩
  go_wp2_with fail
  go_ret
  exact ⟨rfl, hk⟩

theorem enters_clos_format2 (args : Array Value) (w : World) : (callFunc 68 args).run Try.prog w = .ok (.enter 68 args) w := enters_of Try.func68 (by kernel_rfl) rfl args w
set_option maxRecDepth 100000 in
set_option maxHeartbeats 2000000 in
theorem clos_format2 (h : Kj w W L M p A) (hj : (db, Obj.cells #[.pointer (some ⟨p, 0, none⟩)] t1 (0, 0)) ∈ M) : Calls Try.prog 68 #[.pointer (some ⟨db, 0, none⟩)] W fun x W' => x = .returned (.int .i64 (snE A 1 0)) ∧ Kj w W' L M p (snD A 1 0) := by
  have HK := hide h
  have c0 : W.cell? ⟨db, 0, none⟩ = some (.pointer (some ⟨p, 0, none⟩)) := h.cell hj 0
  clear h hj
  go_enter Try.func68, Try.ntmps68
  go_wp2_with fail
  refine (kjShorten (unhide HK) 1 (by decide) 0).mono ?_
  rintro x W2 ⟨rfl, hk⟩
  go_wp2_with fail
  go_ret
  exact ⟨rfl, hk⟩

theorem enters_clos_open1 (args : Array Value) (w : World) : (callFunc 52 args).run Try.prog w = .ok (.enter 52 args) w := enters_of Try.func52 (by kernel_rfl) rfl args w
set_option maxRecDepth 100000 in
set_option maxHeartbeats 4000000 in
theorem clos_open1 (h : Kj w W L M p A) (s e l m : Nat) (hl : l < 2) (hj : (db, Obj.cells #[.pointer (some ⟨p, 0, none⟩)] t1 (0, 0)) ∈ M) (hn : (nb, Obj.cells #[.int .u64 ((s : Nat) : Int), .int .u64 ((e : Nat) : Int), .int .u8 ((l : Nat) : Int)] t2 (0, 0)) ∈ M) (hm : (sb, Obj.cells #[.int .i64 ((m : Nat) : Int)] t3 (0, 0)) ∈ M) :
    Calls Try.prog 52 #[.pointer (some ⟨db, 0, none⟩), .pointer (some ⟨nb, 0, none⟩), .pointer (some ⟨sb, 0, none⟩)] W fun x W' => x = .returned (.int .i64 (snE A l m)) ∧ Kj w W' L M p (snD A l m) := by
  have HK := hide h
  have c0 : W.cell? ⟨db, 0, none⟩ = some (.pointer (some ⟨p, 0, none⟩)) := h.cell hj 0
  have c1 : W.cell? ⟨nb, 0, none⟩ = some (.int .u64 ((s : Nat) : Int)) := h.cell hn 0
  have c2 : W.cell? ⟨nb, 1, none⟩ = some (.int .u64 ((e : Nat) : Int)) := h.cell hn 1
  have c3 : W.cell? ⟨nb, 2, none⟩ = some (.int .u8 ((l : Nat) : Int)) := h.cell hn 2
  have c4 : W.cell? ⟨sb, 0, none⟩ = some (.int .i64 ((m : Nat) : Int)) := h.cell hm 0
  have HC0 := hide hj
  have HC1 := hide hn
  have HC4 := hide hm
  clear h hj hn hm
  go_enter Try.func52, Try.ntmps52
  go_wp2_with fail
  go_region_with (first
    | (go_at_call 35; refine (live_below s e l (by omega) _).mono ?_; rintro x W2 ⟨rfl, hb⟩; (first | have HK2 := hide (((unhide HK).drewN _).later hb) | have HK2 := hide ((unhide HK).later hb) | have HK2 := hide ((unhide HK).drew1.later hb)); clear hb; have d0 : W2.cell? ⟨db, 0, none⟩ = some (.pointer (some ⟨p, 0, none⟩)) := (unhide HK2).cell (unhide HC0) 0; have d4 : W2.cell? ⟨sb, 0, none⟩ = some (.int .i64 ((m : Nat) : Int)) := (unhide HK2).cell (unhide HC4) 0)
    | (go_at_call 44; (first | refine (kjShorten ((unhide HK2).drewN _) l hl m).mono ?_ | refine (kjShorten (unhide HK2) l hl m).mono ?_ | refine (kjShorten (unhide HK2).drew1 l hl m).mono ?_); rintro x W3 ⟨rfl, hk⟩))
  all_goals go_wp2
  all_goals go_ret
  all_goals exact ⟨rfl, hk⟩

theorem enters_clos_open2 (args : Array Value) (w : World) : (callFunc 53 args).run Try.prog w = .ok (.enter 53 args) w := enters_of Try.func53 (by kernel_rfl) rfl args w
set_option maxRecDepth 100000 in
set_option maxHeartbeats 4000000 in
theorem clos_open2 (h : Kj w W L M p A) (s e l : Nat) (hl : l < 2) (hj : (db, Obj.cells #[.pointer (some ⟨p, 0, none⟩)] t1 (0, 0)) ∈ M) (hn : (nb, Obj.cells #[.int .u64 ((s : Nat) : Int), .int .u64 ((e : Nat) : Int), .int .u8 ((l : Nat) : Int)] t2 (0, 0)) ∈ M) :
    Calls Try.prog 53 #[.pointer (some ⟨db, 0, none⟩), .pointer (some ⟨nb, 0, none⟩)] W fun x W' => x = .returned (.int .i64 (snE A (1 - l) 0)) ∧ Kj w W' L M p (snD A (1 - l) 0) := by
  have HK := hide h
  have c0 : W.cell? ⟨db, 0, none⟩ = some (.pointer (some ⟨p, 0, none⟩)) := h.cell hj 0
  have c1 : W.cell? ⟨nb, 0, none⟩ = some (.int .u64 ((s : Nat) : Int)) := h.cell hn 0
  have c2 : W.cell? ⟨nb, 1, none⟩ = some (.int .u64 ((e : Nat) : Int)) := h.cell hn 1
  have c3 : W.cell? ⟨nb, 2, none⟩ = some (.int .u8 ((l : Nat) : Int)) := h.cell hn 2
  have HC0 := hide hj
  clear h hj hn
  go_enter Try.func53, Try.ntmps53
  go_wp2_with fail
  go_region_with (first
    | (go_at_call 36; refine (other_any s e l (by omega) _).mono ?_; rintro x W2 ⟨rfl, hb⟩; (first | have HK2 := hide (((unhide HK).drewN _).later hb) | have HK2 := hide ((unhide HK).later hb) | have HK2 := hide ((unhide HK).drew1.later hb)); clear hb; have d0 : W2.cell? ⟨db, 0, none⟩ = some (.pointer (some ⟨p, 0, none⟩)) := (unhide HK2).cell (unhide HC0) 0)
    | (go_at_call 44; (first | refine (kjShorten ((unhide HK2).drewN _) (1 - l) (by omega) 0).mono ?_ | refine (kjShorten (unhide HK2) (1 - l) (by omega) 0).mono ?_ | refine (kjShorten (unhide HK2).drew1 (1 - l) (by omega) 0).mono ?_); rintro x W3 ⟨rfl, hk⟩))
  all_goals go_wp2
  all_goals go_ret
  all_goals exact ⟨rfl, hk⟩

end
end Go.Proofs.Ytflfiobicapopaa

namespace Go.Proofs.Ytflfiobicapopaa
open Go.RowKit

/-- What Format tells and leaves. -/
def fmE (A : AD) : Int := if loadE A = 3 then 3 else if snE A 0 0 ≠ 0 then snE A 0 0 else if snE (snD A 0 0) 1 0 ≠ 0 then snE (snD A 0 0) 1 0 else saveE (snD (snD A 0 0) 1 0) ⟨(loadH A).s, 0, 0⟩
def fmD (A : AD) : AD := if loadE A = 3 then A else if snE A 0 0 ≠ 0 then snD A 0 0 else if snE (snD A 0 0) 1 0 ≠ 0 then snD (snD A 0 0) 1 0 else saveD (snD (snD A 0 0) 1 0) ⟨(loadH A).s, 0, 0⟩
theorem loadE_cases (A : AD) : loadE A = 0 ∨ loadE A = 50 ∨ loadE A = 3 := by
  unfold loadE
  split
  · exact .inr (.inr rfl)
  · split
    · exact .inl rfl
    · exact .inr (.inl rfl)

theorem headOf_fits {b : List UInt8} (hl : b.length = 32) : (headOf b).fits := by
  refine ⟨le8_lt (by rw [List.length_take]; omega), le8_lt (by rw [List.length_take, List.length_drop]; omega), (b.getD 16 0).toNat_lt⟩
theorem loadH_fits {A : AD} (h : A.Ok) : (loadH A).fits := by
  unfold loadH pickV pickH
  split
  · exact ⟨by decide, by decide, by decide⟩
  · have h0 := headOf_fits (h.sh 0 (by decide))
    have h1 := headOf_fits (h.sh 1 (by decide))
    simp only
    split
    · exact h1
    · split
      · exact h0
      · exact ⟨by decide, by decide, by decide⟩

def fmtK : Nat → FuncId
  | 0 => 67
  | 1 => 68
  | _ => 69
def fmtC (db nb : Nat) : Nat → Array Value
  | 0 => #[.pointer (some ⟨db, 0, none⟩)]
  | 1 => #[.pointer (some ⟨db, 0, none⟩)]
  | _ => #[.pointer (some ⟨db, 0, none⟩), .pointer (some ⟨nb, 0, none⟩)]

section
variable {w W : World} {L : List (Value × Thing)} {M : List (Nat × Obj)} {p : Nat} {A : AD}
def fmtR (w : World) (L : List (Value × Thing)) (M M0 : List (Nat × Obj)) (p : Nat) (A : AD) : Nat → World → Prop
  | 0, W => Kj w W L M0 p A
  | 1, W => snE A 0 0 = 0 ∧ Kj w W L M0 p (snD A 0 0)
  | 2, W => snE A 0 0 = 0 ∧ snE (snD A 0 0) 1 0 = 0 ∧ Kj w W L M0 p (snD (snD A 0 0) 1 0)
  | _, W => fmE A = 0 ∧ Kj w W L M p (fmD A)

theorem fmt_turn (hl : loadE A ≠ 3) (s : Nat) (hs : (loadH A).s = s) (hf : (HeadD.mk s 0 0).fits) (b nb hb db c : Nat) (t0 t1 t3 : TypeId) (M0 : List (Nat × Obj)) (o : Obj)
    (hM : M0 = (b, Obj.cells #[.func (.func 67) #[] #[.pointer (some ⟨db, 0, none⟩)], .func (.func 68) #[] #[.pointer (some ⟨db, 0, none⟩)], .func (.func 69) #[] #[.pointer (some ⟨db, 0, none⟩), .pointer (some ⟨nb, 0, none⟩)]] t0 (0, 0)) :: (nb, Obj.cells #[.int .u64 ((s : Nat) : Int), .int .u64 ((0 : Nat) : Int), .int .u8 ((0 : Nat) : Int)] t1 (0, 0)) :: (hb, o) :: (db, Obj.cells #[.pointer (some ⟨p, 0, none⟩)] t3 (0, 0)) :: M)
    (h : Kj w W L M0 p A) : Calls Try.prog 37 #[.slice (some ⟨b, 0, none⟩) 3 c] W fun x W' => x = .returned (.int .i64 (fmE A)) ∧ Kj w W' L M p (fmD A) := by
  have hdm : (db, Obj.cells #[.pointer (some ⟨p, 0, none⟩)] t3 (0, 0)) ∈ M0 := by rw [hM]; simp
  have hbm : (b, Obj.cells #[.func (.func 67) #[] #[.pointer (some ⟨db, 0, none⟩)], .func (.func 68) #[] #[.pointer (some ⟨db, 0, none⟩)], .func (.func 69) #[] #[.pointer (some ⟨db, 0, none⟩), .pointer (some ⟨nb, 0, none⟩)]] t0 (0, 0)) ∈ M0 := by rw [hM]; simp
  have hnm : M0[1]? = some (nb, Obj.cells #[.int .u64 ((s : Nat) : Int), .int .u64 ((0 : Nat) : Int), .int .u8 ((0 : Nat) : Int)] t1 (0, 0)) := by rw [hM]; rfl
  have hdrop : ∀ {W' A'}, Kj w W' L M0 p A' → Kj w W' L M p A' := fun {W' A'} hk => by
    have := hk.drop 4
    rw [hM] at this
    exact this
  have hdrop1 : ∀ {W' A' q}, Kj w W' L (M0.set 1 q) p A' → Kj w W' L M p A' := fun {W' A' q} hk => by
    have := hk.drop 4
    rw [hM] at this
    exact this
  refine (inTurn_any 3 (by decide) b c fmtK (fmtC db nb) (fmtR w L M M0 p A) (fun E W' => E = fmE A ∧ Kj w W' L M p (fmD A)) W ?_ ?_ ?_ h).mono ?_
  · intro i hi W'
    rcases (show i = 0 ∨ i = 1 ∨ i = 2 by omega) with rfl | rfl | rfl
    · exact enters_clos_format1 _ _
    · exact enters_clos_format2 _ _
    · exact enters_clos_format3 _ _
  · intro i W' hi hR
    rcases (show i = 0 ∨ i = 1 ∨ i = 2 by omega) with rfl | rfl | rfl
    · exact Kj.cell (show Kj w W' L M0 p A from hR) hbm 0
    · exact Kj.cell hR.2 hbm 1
    · exact Kj.cell hR.2.2 hbm 2
  · intro i W' hi hR
    rcases (show i = 0 ∨ i = 1 ∨ i = 2 by omega) with rfl | rfl | rfl
    · refine (clos_format1 (show Kj w W' L M0 p A from hR) hdm).mono fun x W2 ⟨hx, hk⟩ => ⟨_, hx, fun e => ⟨e, hk⟩, fun e => ?_⟩
      exact ⟨by rw [fmE, if_neg hl, if_pos e], by rw [fmD, if_neg hl, if_pos e]; exact hdrop hk⟩
    · obtain ⟨e1, hR⟩ := hR
      refine (clos_format2 hR hdm).mono fun x W2 ⟨hx, hk⟩ => ⟨_, hx, fun e => ⟨e1, e, hk⟩, fun e => ?_⟩
      exact ⟨by rw [fmE, if_neg hl, if_neg (fun h => h e1), if_pos e], by rw [fmD, if_neg hl, if_neg (fun h => h e1), if_pos e]; exact hdrop hk⟩
    · obtain ⟨e1, e2, hR⟩ := hR
      have eE : fmE A = saveE (snD (snD A 0 0) 1 0) ⟨s, 0, 0⟩ := by rw [fmE, if_neg hl, if_neg (fun h => h e1), if_neg (fun h => h e2), hs]
      have eD : fmD A = saveD (snD (snD A 0 0) 1 0) ⟨s, 0, 0⟩ := by rw [fmD, if_neg hl, if_neg (fun h => h e1), if_neg (fun h => h e2), hs]
      refine (clos_format3 hR s 0 0 hf 1 hdm hnm).mono fun x W2 ⟨hx, k1, k2⟩ => ⟨_, hx, fun e => ?_, fun e => ?_⟩
      · exact ⟨by rw [eE]; exact e, by rw [eD]; exact hdrop1 (k2 e)⟩
      · exact ⟨by rw [eE], by rw [eD]; exact hdrop (k1 e)⟩
  · rintro x W' ⟨E, rfl, h1, h2⟩
    by_cases e : E = 0
    · obtain ⟨a1, a2⟩ := h1 e
      exact ⟨by rw [a1, e], a2⟩
    · obtain ⟨a1, a2⟩ := h2 e
      exact ⟨by rw [a1], a2⟩

set_option maxRecDepth 100000 in
set_option maxHeartbeats 2000000 in
theorem kjFormat (h : Kj w W L M p A) : Calls Try.prog 29 #[.pointer (some ⟨p, 0, none⟩)] W fun x W' => x = .returned (.int .i64 (fmE A)) ∧ Kj w W' L M p (fmD A) := by
  have hok : A.Ok := by obtain ⟨D, v, F, h1, _⟩ := h.dsk; exact h1.ok
  have HFT := hide (loadH_fits hok)
  clear hok
  have HK := hide (h.new (.cells #[.pointer (some ⟨p, 0, none⟩)] 29))
  clear h
  have hmk := makes
  go_enter Try.func29, Try.ntmps29
  go_upto_region 1 with fail
  generalize hW1 : W.alloc (.cells #[.pointer (some ⟨p, 0, none⟩)] 29) = W1 at *
  clear hW1
  generalize W.heap.size = db at *
  have c0 : W1.cell? ⟨db, 0, none⟩ = some (.pointer (some ⟨p, 0, none⟩)) := (unhide HK).cell (List.mem_cons_self ..) 0
  go_wp2_with fail
  refine (kjLoad (unhide HK)).mono ?_
  rintro x W2 ⟨s, e, l, rfl, hH, hk⟩
  have HH := hide hH
  have HK2 := hide (hk.new (.cells #[.int .u64 ((s : Nat) : Int), .int .u64 ((e : Nat) : Int), .int .u8 ((l : Nat) : Int)] 37))
  clear hH hk HK c0
  have HSF : Hid ((HeadD.mk s 0 0).fits) := ⟨by have := (unhide HFT).1; rw [unhide HH] at this; exact this, (by decide : 0 < 18446744073709551616), (by decide : 0 < 256)⟩
  have HS : Hid ((loadH A).s = s) := by show _ = _; rw [unhide HH]
  by_cases h3 : loadE A = 3
  · have HE : Hid (fmE A = 3 ∧ fmD A = A) := ⟨if_pos h3, if_pos h3⟩
    rw [h3]
    clear h3
    go_wp2_with fail
    go_ret
    rw [(unhide HE).1, (unhide HE).2]
    exact ⟨rfl, (unhide HK2).drop 2⟩
  · have HL := hide h3
    have hor : loadE A = 0 ∨ loadE A = 50 := by
      rcases loadE_cases A with h | h | h
      · exact .inl h
      · exact .inr h
      · exact (h3 h).elim
    clear h3
    rcases hor with h0 | h0
    all_goals
      rw [h0]
      clear h0
      go_upto_region 2 with fail
      generalize hW3 : W2.alloc (.cells #[.int .u64 ((s : Nat) : Int), .int .u64 ((e : Nat) : Int), .int .u8 ((l : Nat) : Int)] 37) = W3 at *
      clear hW3
      generalize W2.heap.size = hb at *
      have d0 : W3.cell? ⟨hb, 0, none⟩ = some (.int .u64 ((s : Nat) : Int)) := (unhide HK2).cell (List.mem_cons_self ..) 0
      have HK3 := hide ((unhide HK2).new (.cells #[.int .u64 ((s : Nat) : Int), .int .u64 ((0 : Nat) : Int), .int .u8 ((0 : Nat) : Int)] 37))
      go_upto_region 5 with fail
      clear d0 HK2
      simp only [Int.ofNat_zero] at HK3
      generalize hW4 : W3.alloc (.cells #[.int .u64 ((s : Nat) : Int), .int .u64 0, .int .u8 0] 37) = W4 at *
      clear hW4
      generalize W3.heap.size = nb at *
      have HK4 := hide ((unhide HK3).new (.cells #[.func (.func 67) #[] #[.pointer (some ⟨db, 0, none⟩)], .func (.func 68) #[] #[.pointer (some ⟨db, 0, none⟩)], .func (.func 69) #[] #[.pointer (some ⟨db, 0, none⟩), .pointer (some ⟨nb, 0, none⟩)]] 108))
      clear HK3
      go_wp2_with fail
      refine (fmt_turn (unhide HL) s (unhide HS) (unhide HSF) _ nb hb db _ _ _ _ _ _ rfl (unhide HK4)).mono ?_
      rintro x W5 ⟨rfl, hk⟩
      have HK5 := hide hk
      clear hk HK4
      go_wp2_with fail
      go_ret
      exact ⟨rfl, unhide HK5⟩
end
end Go.Proofs.Ytflfiobicapopaa

namespace Go.Proofs.Ytflfiobicapopaa
open Go.RowKit

/-- What a batch, appended to a segment, and that synced, tells and leaves. -/
def puE (A : AD) (i : Nat) (b : List UInt8) : Int := if apE A b.length = 0 then chE (apD A i b) else apE A b.length
def puD (A : AD) (i : Nat) (b : List UInt8) : AD := if apE A b.length = 0 then syD (apD A i b) i else apD A i b
/-- What Append tells and leaves. -/
def jaE (A : AD) (h : HeadD) (rows : List (List UInt8)) : Int := if bputErr rows = 0 then puE A h.l (bputOf rows) else bputErr rows
def jaD (A : AD) (h : HeadD) (rows : List (List UInt8)) : AD := if bputErr rows = 0 then puD A h.l (bputOf rows) else A

def apK : Nat → FuncId
  | 0 => 45
  | _ => 46
def apC (jb sb bb : Nat) : Nat → Array Value
  | 0 => #[.pointer (some ⟨jb, 0, none⟩), .pointer (some ⟨sb, 0, none⟩), .pointer (some ⟨bb, 0, none⟩)]
  | _ => #[.pointer (some ⟨jb, 0, none⟩), .pointer (some ⟨sb, 0, none⟩)]

section
variable {w W : World} {L : List (Value × Thing)} {M : List (Nat × Obj)} {p g : Nat} {A : AD} {h : HeadD} {tj : TypeId}
def apR (w : World) (L : List (Value × Thing)) (M M0 : List (Nat × Obj)) (p : Nat) (A : AD) (i : Nat) (b : List UInt8) : Nat → World → Prop
  | 0, W => Kj w W L M0 p A
  | 1, W => apE A b.length = 0 ∧ Kj w W L M0 p (apD A i b)
  | _, W => puE A i b = 0 ∧ Kj w W L M p (puD A i b)

theorem ap_turn (hl : h.l < 2) (b sb bb jb c : Nat) (ba : Option Addr) (bn bc : Nat) (bs : List UInt8) (t0 t1 t2 t3 : TypeId) (M0 : List (Nat × Obj)) (hg : (g, Obj.cells (jCells g p h) tj (0, 0)) ∈ M) (hL : (.slice ba bn bc, Thing.bytes bs) ∈ L)
    (hM : M0 = (b, Obj.cells #[.func (.func 45) #[] #[.pointer (some ⟨jb, 0, none⟩), .pointer (some ⟨sb, 0, none⟩), .pointer (some ⟨bb, 0, none⟩)], .func (.func 46) #[] #[.pointer (some ⟨jb, 0, none⟩), .pointer (some ⟨sb, 0, none⟩)]] t0 (0, 0)) :: (sb, Obj.cells #[.int .i64 ((h.l : Nat) : Int)] t1 (0, 0)) :: (bb, Obj.cells #[.slice ba bn bc] t2 (0, 0)) :: (jb, Obj.cells #[.pointer (some ⟨g, 0, none⟩)] t3 (0, 0)) :: M)
    (hk : Kj w W L M0 p A) : Calls Try.prog 37 #[.slice (some ⟨b, 0, none⟩) 2 c] W fun x W' => x = .returned (.int .i64 (puE A h.l bs)) ∧ Kj w W' L M p (puD A h.l bs) := by
  have hjm : (jb, Obj.cells #[.pointer (some ⟨g, 0, none⟩)] t3 (0, 0)) ∈ M0 := by rw [hM]; simp
  have hsm : (sb, Obj.cells #[.int .i64 ((h.l : Nat) : Int)] t1 (0, 0)) ∈ M0 := by rw [hM]; simp
  have hbm : (bb, Obj.cells #[.slice ba bn bc] t2 (0, 0)) ∈ M0 := by rw [hM]; simp
  have hgm : (g, Obj.cells (jCells g p h) tj (0, 0)) ∈ M0 := by rw [hM]; simp [hg]
  have hfm : (b, Obj.cells #[.func (.func 45) #[] #[.pointer (some ⟨jb, 0, none⟩), .pointer (some ⟨sb, 0, none⟩), .pointer (some ⟨bb, 0, none⟩)], .func (.func 46) #[] #[.pointer (some ⟨jb, 0, none⟩), .pointer (some ⟨sb, 0, none⟩)]] t0 (0, 0)) ∈ M0 := by rw [hM]; simp
  have hdrop : ∀ {W' A'}, Kj w W' L M0 p A' → Kj w W' L M p A' := fun {W' A'} hk => by
    have := hk.drop 4
    rw [hM] at this
    exact this
  refine (inTurn_any 2 (by decide) b c apK (apC jb sb bb) (apR w L M M0 p A h.l bs) (fun E W' => E = puE A h.l bs ∧ Kj w W' L M p (puD A h.l bs)) W ?_ ?_ ?_ hk).mono ?_
  · intro i hi W'
    rcases (show i = 0 ∨ i = 1 by omega) with rfl | rfl
    · exact enters_clos_append _ _
    · exact enters_clos_sync _ _
  · intro i W' hi hR
    rcases (show i = 0 ∨ i = 1 by omega) with rfl | rfl
    · exact Kj.cell (show Kj w W' L M0 p A from hR) hfm 0
    · exact Kj.cell hR.2 hfm 1
  · intro i W' hi hR
    rcases (show i = 0 ∨ i = 1 by omega) with rfl | rfl
    · refine (clos_append (show Kj w W' L M0 p A from hR) hjm hsm hbm hgm hl bs hL).mono fun x W2 ⟨hx, hk⟩ => ⟨_, hx, fun e => ⟨e, hk⟩, fun e => ?_⟩
      exact ⟨by rw [puE, if_neg e], by rw [puD, if_neg e]; exact hdrop hk⟩
    · obtain ⟨e1, hR⟩ := hR
      have eE : puE A h.l bs = chE (apD A h.l bs) := if_pos e1
      have eD : puD A h.l bs = syD (apD A h.l bs) h.l := if_pos e1
      refine (clos_sync hR hjm hsm hgm hl).mono fun x W2 ⟨hx, hk⟩ => ⟨_, hx, fun e => ?_, fun e => ?_⟩
      · exact ⟨by rw [eE]; exact e, by rw [eD]; exact hdrop hk⟩
      · exact ⟨by rw [eE], by rw [eD]; exact hdrop hk⟩
  · rintro x W' ⟨E, rfl, h1, h2⟩
    by_cases e : E = 0
    · obtain ⟨a1, a2⟩ := h1 e
      exact ⟨by rw [a1, e], a2⟩
    · obtain ⟨a1, a2⟩ := h2 e
      exact ⟨by rw [a1], a2⟩

set_option maxRecDepth 100000 in
set_option maxHeartbeats 2000000 in
theorem kjJAppend (hk : Kj w W L M p A) (hl : h.l < 2) (hg : (g, Obj.cells (jCells g p h) tj (0, 0)) ∈ M) (u : Value) (rows : List (List UInt8)) (hr : RowsAt W u rows) :
    Calls Try.prog 14 #[.pointer (some ⟨g, 0, none⟩), u] W fun x W' => x = .returned (.int .i64 (jaE A h rows)) ∧ Kj w W' L M p (jaD A h rows) := by
  obtain ⟨ua, uc, rfl, _⟩ := hr.form
  have HR := hide (hr.later ((Below.refl _ W).alloc (Nat.le_refl _) (.cells #[.pointer (some ⟨g, 0, none⟩)] 30)))
  have HK := hide (hk.new (.cells #[.pointer (some ⟨g, 0, none⟩)] 30))
  have HG := hide hg
  have HL := hide hl
  clear hk hr hg
  generalize rows.length = rn at *
  have hmk := makes
  go_enter Try.func14, Try.ntmps14
  go_upto_region 1 with fail
  generalize hW1 : W.alloc (.cells #[.pointer (some ⟨g, 0, none⟩)] 30) = W1 at *
  clear hW1
  generalize W.heap.size = jb at *
  have c0 : W1.cell? ⟨jb, 0, none⟩ = some (.pointer (some ⟨g, 0, none⟩)) := (unhide HK).cell (List.mem_cons_self ..) 0
  have HC := hide ((unhide HK).cell (List.mem_cons_of_mem _ (unhide HG)) 0)
  go_wp2_with fail
  refine (jmade_yes g W1 (unhide HC)).mono ?_
  rintro x w' ⟨rfl, rfl⟩
  clear HC
  go_wp2_with fail
  refine (kjPut (unhide HK) _ rows (unhide HR)).mono ?_
  rintro x W2 ⟨ba, bc, rfl, hk2⟩
  have HK2 := hide (hk2.new (.cells #[.slice ba (bputOf rows).length bc] 49))
  clear hk2 HK HR c0
  obtain ⟨bs, hbs⟩ : ∃ bs, bputOf rows = bs := ⟨_, rfl⟩
  obtain ⟨E, hE⟩ : ∃ E, bputErr rows = E := ⟨_, rfl⟩
  have HPE : Hid (E ≠ 0 → jaE A h rows = E ∧ jaD A h rows = A) := fun h0 => ⟨by rw [jaE, hE, if_neg h0], by rw [jaD, hE, if_neg h0]⟩
  have HP0 : Hid (E = 0 → jaE A h rows = puE A h.l bs ∧ jaD A h rows = puD A h.l bs) := fun h0 => ⟨by rw [jaE, hE, if_pos h0, hbs], by rw [jaD, hE, if_pos h0, hbs]⟩
  rw [hbs] at HK2 ⊢
  rw [hE]
  clear hbs hE
  generalize bs.length = bn at *
  go_upto_region 4 with fail
  generalize hW3 : W2.alloc (.cells #[.slice ba bn bc] 49) = W3 at *
  clear hW3
  generalize W2.heap.size = bb at *
  by_cases h0 : E = 0
  · subst h0
    have c1 : W3.cell? ⟨jb, 0, none⟩ = some (.pointer (some ⟨g, 0, none⟩)) := (unhide HK2).cell (List.mem_cons_of_mem _ (List.mem_cons_self ..)) 0
    have c2 : W3.cell? ⟨g, 2, none⟩ = some (.int .u64 ((h.s : Nat) : Int)) := (unhide HK2).cell (List.mem_cons_of_mem _ (List.mem_cons_of_mem _ (unhide HG))) 2
    have c3 : W3.cell? ⟨g, 3, none⟩ = some (.int .u64 ((h.e : Nat) : Int)) := (unhide HK2).cell (List.mem_cons_of_mem _ (List.mem_cons_of_mem _ (unhide HG))) 3
    have c4 : W3.cell? ⟨g, 4, none⟩ = some (.int .u8 ((h.l : Nat) : Int)) := (unhide HK2).cell (List.mem_cons_of_mem _ (List.mem_cons_of_mem _ (unhide HG))) 4
    go_wp2_with fail
    refine (live_below h.s h.e h.l (by have := unhide HL; omega) _).mono ?_
    rintro x W4 ⟨rfl, hb4⟩
    have HK4 := hide (((unhide HK2).later hb4).new (.cells #[.int .i64 ((h.l : Nat) : Int)] 3))
    clear hb4 HK2 c1 c2 c3 c4
    go_upto_region 7 with fail
    generalize hW5 : W4.alloc (.cells #[.int .i64 ((h.l : Nat) : Int)] 3) = W5 at *
    clear hW5
    generalize W4.heap.size = sb at *
    have HK5 := hide ((unhide HK4).new (.cells #[.func (.func 45) #[] #[.pointer (some ⟨jb, 0, none⟩), .pointer (some ⟨sb, 0, none⟩), .pointer (some ⟨bb, 0, none⟩)], .func (.func 46) #[] #[.pointer (some ⟨jb, 0, none⟩), .pointer (some ⟨sb, 0, none⟩)]] 108))
    clear HK4
    go_wp2_with fail
    refine (ap_turn (unhide HL) _ sb bb jb _ ba bn bc bs _ _ _ _ _ (unhide HG) (List.mem_cons_self ..) rfl (unhide HK5)).mono ?_
    rintro x W6 ⟨rfl, hk⟩
    have HK6 := hide hk
    clear hk HK5
    go_wp2_with fail
    go_ret
    rw [(unhide HP0 trivial).1, (unhide HP0 trivial).2]
    exact ⟨rfl, (unhide HK6).lessL fun q hq => List.mem_cons_of_mem _ hq⟩
  · have h0' : (E != 0) = true := bne_iff_ne.2 h0
    have H0 := hide h0
    clear h0
    go_wp2_with fail
    go_ret
    rw [(unhide HPE (unhide H0)).1, (unhide HPE (unhide H0)).2]
    exact ⟨rfl, ((unhide HK2).drop 2).lessL fun q hq => List.mem_cons_of_mem _ hq⟩
end
end Go.Proofs.Ytflfiobicapopaa

namespace Go.Proofs.Ytflfiobicapopaa
open Go.RowKit

/-- The head that Switch saves. -/
def HeadD.over (h : HeadD) : HeadD := ⟨h.s, h.e, 1 - h.l⟩
/-- What Switch to a batch's bytes tells, leaves, and the head then. -/
def swE (A : AD) (h : HeadD) (b : List UInt8) : Int :=
  if puE A (1 - h.l) b ≠ 0 then puE A (1 - h.l) b else if saveE (puD A (1 - h.l) b) h.over ≠ 0 then saveE (puD A (1 - h.l) b) h.over else snE (saveD (puD A (1 - h.l) b) h.over) h.l 0
def swD (A : AD) (h : HeadD) (b : List UInt8) : AD :=
  if puE A (1 - h.l) b ≠ 0 then puD A (1 - h.l) b else if saveE (puD A (1 - h.l) b) h.over ≠ 0 then saveD (puD A (1 - h.l) b) h.over else snD (saveD (puD A (1 - h.l) b) h.over) h.l 0
def swH (A : AD) (h : HeadD) (b : List UInt8) : HeadD :=
  if puE A (1 - h.l) b ≠ 0 then h else if saveE (puD A (1 - h.l) b) h.over ≠ 0 then h else h.over.next
/-- What Switch tells and leaves, and the head then. -/
def jsE (A : AD) (h : HeadD) (rows : List (List UInt8)) : Int := if bputErr rows = 0 then swE A h (bputOf rows) else bputErr rows
def jsD (A : AD) (h : HeadD) (rows : List (List UInt8)) : AD := if bputErr rows = 0 then swD A h (bputOf rows) else A
def jsH (A : AD) (h : HeadD) (rows : List (List UInt8)) : HeadD := if bputErr rows = 0 then swH A h (bputOf rows) else h

def swK : Nat → FuncId
  | 0 => 38
  | 1 => 39
  | 2 => 41
  | _ => 43
def swC (jb tb bb nb fb : Nat) : Nat → Array Value
  | 0 => #[.pointer (some ⟨jb, 0, none⟩), .pointer (some ⟨tb, 0, none⟩), .pointer (some ⟨bb, 0, none⟩)]
  | 1 => #[.pointer (some ⟨jb, 0, none⟩), .pointer (some ⟨tb, 0, none⟩)]
  | 2 => #[.pointer (some ⟨jb, 0, none⟩), .pointer (some ⟨nb, 0, none⟩)]
  | _ => #[.pointer (some ⟨jb, 0, none⟩), .pointer (some ⟨fb, 0, none⟩)]
def swF (jb tb bb nb fb : Nat) : Array Value := #[.func (.func 38) #[] #[.pointer (some ⟨jb, 0, none⟩), .pointer (some ⟨tb, 0, none⟩), .pointer (some ⟨bb, 0, none⟩)], .func (.func 39) #[] #[.pointer (some ⟨jb, 0, none⟩), .pointer (some ⟨tb, 0, none⟩)], .func (.func 41) #[] #[.pointer (some ⟨jb, 0, none⟩), .pointer (some ⟨nb, 0, none⟩)], .func (.func 43) #[] #[.pointer (some ⟨jb, 0, none⟩), .pointer (some ⟨fb, 0, none⟩)]]

section
variable {w W : World} {L : List (Value × Thing)} {M : List (Nat × Obj)} {p g : Nat} {A : AD} {h : HeadD} {tj : TypeId}
/-- The journal, last of the blocks, has that head. -/
def MJ (M : List (Nat × Obj)) (g p : Nat) (tj : TypeId) (h : HeadD) : List (Nat × Obj) := (g, Obj.cells (jCells g p h) tj (0, 0)) :: M
def swR (w : World) (L : List (Value × Thing)) (M P : List (Nat × Obj)) (g p : Nat) (tj : TypeId) (A : AD) (h : HeadD) (b : List UInt8) : Nat → World → Prop
  | 0, W => Kj w W L (P ++ MJ M g p tj h) p A
  | 1, W => apE A b.length = 0 ∧ Kj w W L (P ++ MJ M g p tj h) p (apD A (1 - h.l) b)
  | 2, W => puE A (1 - h.l) b = 0 ∧ Kj w W L (P ++ MJ M g p tj h) p (puD A (1 - h.l) b)
  | 3, W => puE A (1 - h.l) b = 0 ∧ saveE (puD A (1 - h.l) b) h.over = 0 ∧ Kj w W L (P ++ MJ M g p tj h.over.next) p (saveD (puD A (1 - h.l) b) h.over)
  | _, W => swE A h b = 0 ∧ Kj w W L (MJ M g p tj (swH A h b)) p (swD A h b)

theorem sw_turn (hl : h.l < 2) (hf : h.fits) (b nb tb fb bb jb c : Nat) (ba : Option Addr) (bn bc : Nat) (bs : List UInt8) (t0 t1 t2 t3 t4 t5 : TypeId) (P : List (Nat × Obj)) (hL : (.slice ba bn bc, Thing.bytes bs) ∈ L)
    (hP : P = [(b, Obj.cells (swF jb tb bb nb fb) t0 (0, 0)), (nb, Obj.cells #[.int .u64 ((h.s : Nat) : Int), .int .u64 ((h.e : Nat) : Int), .int .u8 ((1 - h.l : Nat) : Int)] t1 (0, 0)), (tb, Obj.cells #[.int .i64 ((1 - h.l : Nat) : Int)] t2 (0, 0)), (fb, Obj.cells #[.int .i64 ((h.l : Nat) : Int)] t3 (0, 0)), (bb, Obj.cells #[.slice ba bn bc] t4 (0, 0)), (jb, Obj.cells #[.pointer (some ⟨g, 0, none⟩)] t5 (0, 0))])
    (hk : Kj w W L (P ++ MJ M g p tj h) p A) : Calls Try.prog 37 #[.slice (some ⟨b, 0, none⟩) 4 c] W fun x W' => x = .returned (.int .i64 (swE A h bs)) ∧ Kj w W' L (MJ M g p tj (swH A h bs)) p (swD A h bs) := by
  have hjm : ∀ h', (jb, Obj.cells #[.pointer (some ⟨g, 0, none⟩)] t5 (0, 0)) ∈ P ++ MJ M g p tj h' := fun h' => by rw [hP]; simp
  have htm : ∀ h', (tb, Obj.cells #[.int .i64 ((1 - h.l : Nat) : Int)] t2 (0, 0)) ∈ P ++ MJ M g p tj h' := fun h' => by rw [hP]; simp
  have hfm : ∀ h', (fb, Obj.cells #[.int .i64 ((h.l : Nat) : Int)] t3 (0, 0)) ∈ P ++ MJ M g p tj h' := fun h' => by rw [hP]; simp
  have hbm : ∀ h', (bb, Obj.cells #[.slice ba bn bc] t4 (0, 0)) ∈ P ++ MJ M g p tj h' := fun h' => by rw [hP]; simp
  have hgm : ∀ h', (g, Obj.cells (jCells g p h') tj (0, 0)) ∈ P ++ MJ M g p tj h' := fun h' => by rw [hP]; simp [MJ]
  have hcm : ∀ h', (b, Obj.cells (swF jb tb bb nb fb) t0 (0, 0)) ∈ P ++ MJ M g p tj h' := fun h' => by rw [hP]; simp
  have hgi : (P ++ MJ M g p tj h)[6]? = some (g, Obj.cells (jCells g p h) tj (0, 0)) := by rw [hP]; rfl
  have hji : (P ++ MJ M g p tj h)[5]? = some (jb, Obj.cells #[.pointer (some ⟨g, 0, none⟩)] t5 (0, 0)) := by rw [hP]; rfl
  have hni : (P ++ MJ M g p tj h)[1]? = some (nb, Obj.cells #[.int .u64 ((h.s : Nat) : Int), .int .u64 ((h.e : Nat) : Int), .int .u8 ((1 - h.l : Nat) : Int)] t1 (0, 0)) := by rw [hP]; rfl
  have hset : ∀ h' : HeadD, (P ++ MJ M g p tj h).set 6 (g, Obj.cells (jCells g p h') tj (0, 0)) = P ++ MJ M g p tj h' := fun h' => by rw [hP]; rfl
  have hdrop : ∀ {W' A' h'}, Kj w W' L (P ++ MJ M g p tj h') p A' → Kj w W' L (MJ M g p tj h') p A' := fun {W' A' h'} hk => by
    have := hk.drop 6
    rw [hP] at this
    exact this
  have hfo : h.over.fits := ⟨hf.1, hf.2.1, by show 1 - h.l < 256; omega⟩
  have l1 : 1 - h.l < 2 := by omega
  refine (inTurn_any 4 (by decide) b c swK (swC jb tb bb nb fb) (swR w L M P g p tj A h bs) (fun E W' => E = swE A h bs ∧ Kj w W' L (MJ M g p tj (swH A h bs)) p (swD A h bs)) W ?_ ?_ ?_ hk).mono ?_
  · intro i hi W'
    rcases (show i = 0 ∨ i = 1 ∨ i = 2 ∨ i = 3 by omega) with rfl | rfl | rfl | rfl
    · exact enters_clos_switch1 _ _
    · exact enters_clos_switch2 _ _
    · exact enters_clos_switch3 _ _
    · exact enters_clos_switch4 _ _
  · intro i W' hi hR
    rcases (show i = 0 ∨ i = 1 ∨ i = 2 ∨ i = 3 by omega) with rfl | rfl | rfl | rfl
    · exact Kj.cell (show Kj w W' L (P ++ MJ M g p tj h) p A from hR) (hcm _) 0
    · exact Kj.cell hR.2 (hcm _) 1
    · exact Kj.cell hR.2 (hcm _) 2
    · exact Kj.cell hR.2.2 (hcm _) 3
  · intro i W' hi hR
    rcases (show i = 0 ∨ i = 1 ∨ i = 2 ∨ i = 3 by omega) with rfl | rfl | rfl | rfl
    · refine (clos_switch1 (show Kj w W' L (P ++ MJ M g p tj h) p A from hR) (hjm _) (htm _) (hbm _) (hgm _) l1 bs hL).mono fun x W2 ⟨hx, hk⟩ => ⟨_, hx, fun e => ⟨e, hk⟩, fun e => ?_⟩
      have eE : puE A (1 - h.l) bs = apE A bs.length := if_neg e
      have eD : puD A (1 - h.l) bs = apD A (1 - h.l) bs := if_neg e
      have en : puE A (1 - h.l) bs ≠ 0 := by rw [eE]; exact e
      exact ⟨by rw [swE, if_pos en, eE], by rw [swD, swH, if_pos en, if_pos en, eD]; exact hdrop hk⟩
    · obtain ⟨e1, hR⟩ := hR
      have eE : puE A (1 - h.l) bs = chE (apD A (1 - h.l) bs) := if_pos e1
      have eD : puD A (1 - h.l) bs = syD (apD A (1 - h.l) bs) (1 - h.l) := if_pos e1
      refine (clos_switch2 hR (hjm _) (htm _) (hgm _) l1).mono fun x W2 ⟨hx, hk⟩ => ⟨_, hx, fun e => ?_, fun e => ?_⟩
      · exact ⟨by rw [eE]; exact e, by rw [eD]; exact hk⟩
      · have en : puE A (1 - h.l) bs ≠ 0 := by rw [eE]; exact e
        exact ⟨by rw [swE, if_pos en, eE], by rw [swD, swH, if_pos en, if_pos en, eD]; exact hdrop hk⟩
    · obtain ⟨e1, hR⟩ := hR
      refine (clos_switch3 hR h.s h.e (1 - h.l) hfo 6 5 1 (by decide) (by decide) hji hni hgi).mono fun x W2 ⟨hx, k1, k2⟩ => ⟨_, hx, fun e => ?_, fun e => ?_⟩
      · have := k2 e
        rw [hset] at this
        exact ⟨e1, e, this⟩
      · have e' : saveE (puD A (1 - h.l) bs) h.over ≠ 0 := e
        have n1 : ¬ puE A (1 - h.l) bs ≠ 0 := fun h => h e1
        have dD : swD A h bs = saveD (puD A (1 - h.l) bs) h.over := by rw [swD, if_neg n1, if_pos e']
        have dH : swH A h bs = h := by rw [swH, if_neg n1, if_pos e']
        exact ⟨by rw [swE, if_neg n1, if_pos e']; rfl, by rw [dD, dH]; exact hdrop (k1 e)⟩
    · obtain ⟨e1, e2, hR⟩ := hR
      have eE : swE A h bs = snE (saveD (puD A (1 - h.l) bs) h.over) h.l 0 := by rw [swE, if_neg (fun h => h e1), if_neg (fun h => h e2)]
      have eD : swD A h bs = snD (saveD (puD A (1 - h.l) bs) h.over) h.l 0 := by rw [swD, if_neg (fun h => h e1), if_neg (fun h => h e2)]
      have eH : swH A h bs = h.over.next := by rw [swH, if_neg (fun h => h e1), if_neg (fun h => h e2)]
      refine (clos_switch4 hR (hjm _) (hfm _) (hgm _) hl).mono fun x W2 ⟨hx, hk⟩ => ⟨_, hx, fun e => ?_, fun e => ?_⟩
      · exact ⟨by rw [eE]; exact e, by rw [eD, eH]; exact hdrop hk⟩
      · exact ⟨by rw [eE], by rw [eD, eH]; exact hdrop hk⟩
  · rintro x W' ⟨E, rfl, h1, h2⟩
    by_cases e : E = 0
    · obtain ⟨a1, a2⟩ := h1 e
      exact ⟨by rw [a1, e], a2⟩
    · obtain ⟨a1, a2⟩ := h2 e
      exact ⟨by rw [a1], a2⟩

theorem Kj.newAt (h : Kj w W L M p A) (o : Obj) {n : Nat} (hn : W.heap.size = n) : Kj w (W.alloc o) L ((n, o) :: M) p A := hn ▸ h.new o
/-- What Switch's first assignments leave: two boxes. -/
def TwoBoxes (w : World) (L : List (Value × Thing)) (M : List (Nat × Obj)) (p : Nat) (A : AD) (x y : Value) (v7 v8 : Value) (wx : World) : Prop := ∃ fb tb : Nat, v7 = .pointer (some ⟨fb, 0, none⟩) ∧ v8 = .pointer (some ⟨tb, 0, none⟩) ∧ Kj w wx L ((tb, Obj.cells #[y] 3 (0, 0)) :: (fb, Obj.cells #[x] 3 (0, 0)) :: M) p A

set_option maxRecDepth 100000 in
set_option maxHeartbeats 8000000 in
theorem kjJSwitch (hk : Kj w W L (MJ M g p tj h) p A) (hl : h.l < 2) (hf : h.fits) (u : Value) (rows : List (List UInt8)) (hr : RowsAt W u rows) :
    Calls Try.prog 13 #[.pointer (some ⟨g, 0, none⟩), u] W fun x W' => x = .returned (.int .i64 (jsE A h rows)) ∧ Kj w W' L (MJ M g p tj (jsH A h rows)) p (jsD A h rows) := by
  obtain ⟨ua, uc, rfl, _⟩ := hr.form
  have hg : (g, Obj.cells (jCells g p h) tj (0, 0)) ∈ MJ M g p tj h := List.mem_cons_self ..
  have HR := hide (hr.later ((Below.refl _ W).alloc (Nat.le_refl _) (.cells #[.pointer (some ⟨g, 0, none⟩)] 30)))
  have HK := hide (hk.new (.cells #[.pointer (some ⟨g, 0, none⟩)] 30))
  have HG := hide hg
  have HL := hide hl
  have HF := hide hf
  clear hk hr hg hf
  generalize rows.length = rn at *
  have hmk := makes
  go_enter Try.func13, Try.ntmps13
  go_upto_region 1 with fail
  generalize hW1 : W.alloc (.cells #[.pointer (some ⟨g, 0, none⟩)] 30) = W1 at *
  clear hW1
  generalize W.heap.size = jb at *
  have c0 : W1.cell? ⟨jb, 0, none⟩ = some (.pointer (some ⟨g, 0, none⟩)) := (unhide HK).cell (List.mem_cons_self ..) 0
  have HC := hide ((unhide HK).cell (List.mem_cons_of_mem _ (unhide HG)) 0)
  go_wp2_with fail
  refine (jmade_yes g W1 (unhide HC)).mono ?_
  rintro x w' ⟨rfl, rfl⟩
  clear HC
  go_wp2_with fail
  refine (kjPut (unhide HK) _ rows (unhide HR)).mono ?_
  rintro x W2 ⟨ba, bc, rfl, hk2⟩
  have HK2 := hide (hk2.new (.cells #[.slice ba (bputOf rows).length bc] 49))
  clear hk2 HK HR c0
  obtain ⟨bs, hbs⟩ : ∃ bs, bputOf rows = bs := ⟨_, rfl⟩
  obtain ⟨E, hE⟩ : ∃ E, bputErr rows = E := ⟨_, rfl⟩
  have HPE : Hid (E ≠ 0 → jsE A h rows = E ∧ jsD A h rows = A ∧ jsH A h rows = h) := fun h0 => ⟨by rw [jsE, hE, if_neg h0], by rw [jsD, hE, if_neg h0], by rw [jsH, hE, if_neg h0]⟩
  have HP0 : Hid (E = 0 → jsE A h rows = swE A h bs ∧ jsD A h rows = swD A h bs ∧ jsH A h rows = swH A h bs) := fun h0 => ⟨by rw [jsE, hE, if_pos h0, hbs], by rw [jsD, hE, if_pos h0, hbs], by rw [jsH, hE, if_pos h0, hbs]⟩
  rw [hbs] at HK2 ⊢
  rw [hE]
  clear hbs hE
  generalize bs.length = bn at *
  go_upto_region 4 with fail
  generalize hW3 : W2.alloc (.cells #[.slice ba bn bc] 49) = W3 at *
  clear hW3
  generalize W2.heap.size = bb at *
  by_cases h0 : E = 0
  · subst h0
    have HP1 := hide (unhide HP0 rfl)
    clear HP0 HPE
    have c1 : W3.cell? ⟨jb, 0, none⟩ = some (.pointer (some ⟨g, 0, none⟩)) := (unhide HK2).cell (List.mem_cons_of_mem _ (List.mem_cons_self ..)) 0
    have c2 : W3.cell? ⟨g, 2, none⟩ = some (.int .u64 ((h.s : Nat) : Int)) := (unhide HK2).cell (List.mem_cons_of_mem _ (List.mem_cons_of_mem _ (unhide HG))) 2
    have c3 : W3.cell? ⟨g, 3, none⟩ = some (.int .u64 ((h.e : Nat) : Int)) := (unhide HK2).cell (List.mem_cons_of_mem _ (List.mem_cons_of_mem _ (unhide HG))) 3
    have c4 : W3.cell? ⟨g, 4, none⟩ = some (.int .u8 ((h.l : Nat) : Int)) := (unhide HK2).cell (List.mem_cons_of_mem _ (List.mem_cons_of_mem _ (unhide HG))) 4
    go_upto_region 6 with fail
    go_cut [7, 8] (fun v7 v8 wx => TwoBoxes w ((.slice ba bn bc, Thing.bytes bs) :: L) ((bb, Obj.cells #[.slice ba bn bc] 49 (0, 0)) :: (jb, Obj.cells #[.pointer (some ⟨g, 0, none⟩)] 30 (0, 0)) :: MJ M g p tj h) p A (.int .i64 ((h.l : Nat) : Int)) (.int .i64 ((1 - h.l : Nat) : Int)) v7 v8 wx)
    case first =>
      have HKS : Hid (∀ X, Below W3.heap.size W3 X → X.cell? ⟨jb, 0, none⟩ = some (.pointer (some ⟨g, 0, none⟩)) ∧ X.cell? ⟨g, 2, none⟩ = some (.int .u64 ((h.s : Nat) : Int)) ∧ X.cell? ⟨g, 3, none⟩ = some (.int .u64 ((h.e : Nat) : Int)) ∧ X.cell? ⟨g, 4, none⟩ = some (.int .u8 ((h.l : Nat) : Int)) ∧ Below W3.heap.size W3 X) := fun X hb =>
        ⟨(hb.cell (p := ⟨jb, 0, none⟩) (World.block_lt_of_cell? _ _ c1)).trans c1, (hb.cell (p := ⟨g, 2, none⟩) (World.block_lt_of_cell? _ _ c2)).trans c2, (hb.cell (p := ⟨g, 3, none⟩) (World.block_lt_of_cell? _ _ c3)).trans c3, (hb.cell (p := ⟨g, 4, none⟩) (World.block_lt_of_cell? _ _ c4)).trans c4, hb⟩
      go_region_held3 (fun X => X.cell? ⟨jb, 0, none⟩ = some (.pointer (some ⟨g, 0, none⟩)) ∧ X.cell? ⟨g, 2, none⟩ = some (.int .u64 ((h.s : Nat) : Int)) ∧ X.cell? ⟨g, 3, none⟩ = some (.int .u64 ((h.e : Nat) : Int)) ∧ X.cell? ⟨g, 4, none⟩ = some (.int .u8 ((h.l : Nat) : Int)) ∧ Below W3.heap.size W3 X)
        ((refine unhide HKS _ ?_; repeat' (first | assumption | exact Below.refl _ _ | refine Below.drew ?_ | refine Below.alloc ?_ ?_ _ | refine Below.setCell ?_ ?_ _ | (first | (have q1 := hBB.size; have q2 := hBA.size; simp; omega) | (have q1 := hBB.size; have q2 := hBA.size; dsimp only; omega) | (have q2 := hBA.size; simp; omega) | (have q2 := hBA.size; dsimp only; omega) | (simp; done) | (simp; omega) | (dsimp only; omega)))))
        (first
          | (go_at_call 35; refine (live_below h.s h.e h.l (by have := unhide HL; omega) _).mono ?_; rintro x w3 ⟨rfl, hb3⟩; have hBA := (by assumption : _ ∧ _ ∧ _ ∧ _ ∧ Below W3.heap.size W3 _).2.2.2.2.trans (hb3.mono (by assumption : _ ∧ _ ∧ _ ∧ _ ∧ Below W3.heap.size W3 _).2.2.2.2.size); (first | have HKA := hide ((((unhide HK2).new (.cells #[.int .i64 0] 3)).newAt (n := W3.heap.size + 1) (.cells #[.int .i64 0] 3) (by simp)).drew1.later hb3) | have HKA := hide (((unhide HK2).new (.cells #[.int .i64 0] 3)).drew1.later hb3) | have HKA := hide ((unhide HK2).drew1.later hb3)); clear hb3)
          | (go_at_call 36; refine (other_any h.s h.e h.l (by have := unhide HL; omega) _).mono ?_; rintro x w4 ⟨rfl, hb4⟩; have hBB := (by assumption : _ ∧ _ ∧ _ ∧ _ ∧ Below W3.heap.size W3 _).2.2.2.2.trans (hb4.mono (by assumption : _ ∧ _ ∧ _ ∧ _ ∧ Below W3.heap.size W3 _).2.2.2.2.size); (first | have HKB := hide ((((unhide HKA).new (.cells #[.int .i64 0] 3)).newAt (n := w3.heap.size + 1) (.cells #[.int .i64 0] 3) (by simp)).later hb4) | have HKB := hide (((unhide HKA).new (.cells #[.int .i64 0] 3)).later hb4) | have HKB := hide ((unhide HKA).later hb4)); clear hb4; (first | (have q1 : (w4).cell? ⟨_, 0, none⟩ = some (.int .i64 0) := (unhide HKB).cell (cs := #[.int .i64 0]) (t := 3) (List.mem_cons_of_mem _ (List.mem_cons_self ..)) 0; have f1 : (w4).frozen? ⟨_, 0, none⟩ = false := (unhide HKB).frozen (cs := #[.int .i64 0]) (t := 3) (List.mem_cons_of_mem _ (List.mem_cons_self ..)) 0; have q2 : (w4).cell? ⟨_, 0, none⟩ = some (.int .i64 0) := (unhide HKB).cell (cs := #[.int .i64 0]) (t := 3) (List.mem_cons_self ..) 0; have f2 : (w4).frozen? ⟨_, 0, none⟩ = false := (unhide HKB).frozen (cs := #[.int .i64 0]) (t := 3) (List.mem_cons_self ..) 0; have q3 : (w4.setCell ⟨_, 0, none⟩ (.int .i64 ((h.l : Nat) : Int))).cell? ⟨_, 0, none⟩ = some (.int .i64 0) := ((unhide HKB).set 0 rfl 0 (.int .i64 ((h.l : Nat) : Int))).cell (cs := #[.int .i64 0]) (t := 3) (List.mem_cons_of_mem _ (List.mem_cons_self ..)) 0; have f3 : (w4.setCell ⟨_, 0, none⟩ (.int .i64 ((h.l : Nat) : Int))).frozen? ⟨_, 0, none⟩ = false := ((unhide HKB).set 0 rfl 0 (.int .i64 ((h.l : Nat) : Int))).frozen (cs := #[.int .i64 0]) (t := 3) (List.mem_cons_of_mem _ (List.mem_cons_self ..)) 0; have q4 : (w4.setCell ⟨_, 0, none⟩ (.int .i64 ((h.l : Nat) : Int))).cell? ⟨_, 0, none⟩ = some (.int .i64 0) := ((unhide HKB).set 1 rfl 0 (.int .i64 ((h.l : Nat) : Int))).cell (cs := #[.int .i64 0]) (t := 3) (List.mem_cons_self ..) 0; have f4 : (w4.setCell ⟨_, 0, none⟩ (.int .i64 ((h.l : Nat) : Int))).frozen? ⟨_, 0, none⟩ = false := ((unhide HKB).set 1 rfl 0 (.int .i64 ((h.l : Nat) : Int))).frozen (cs := #[.int .i64 0]) (t := 3) (List.mem_cons_self ..) 0; (first | simp only [World.size_alloc] at q1 f1 q2 f2 q3 f3 q4 f4 | skip)) | (have q5 : (w4).cell? ⟨_, 0, none⟩ = some (.int .i64 0) := (unhide HKB).cell (cs := #[.int .i64 0]) (t := 3) (List.mem_cons_self ..) 0; have f5 : (w4).frozen? ⟨_, 0, none⟩ = false := (unhide HKB).frozen (cs := #[.int .i64 0]) (t := 3) (List.mem_cons_self ..) 0; have q6 : (w4.alloc (.cells #[.int .i64 0] 3)).cell? ⟨_, 0, none⟩ = some (.int .i64 0) := ((unhide HKB).new (.cells #[.int .i64 0] 3)).cell (cs := #[.int .i64 0]) (t := 3) (List.mem_cons_of_mem _ (List.mem_cons_self ..)) 0; have f6 : (w4.alloc (.cells #[.int .i64 0] 3)).frozen? ⟨_, 0, none⟩ = false := ((unhide HKB).new (.cells #[.int .i64 0] 3)).frozen (cs := #[.int .i64 0]) (t := 3) (List.mem_cons_of_mem _ (List.mem_cons_self ..)) 0; have q7 : ((w4.alloc (.cells #[.int .i64 0] 3)).setCell ⟨_, 0, none⟩ (.int .i64 ((h.l : Nat) : Int))).cell? ⟨_, 0, none⟩ = some (.int .i64 0) := (((unhide HKB).new (.cells #[.int .i64 0] 3)).set 1 rfl 0 (.int .i64 ((h.l : Nat) : Int))).cell (cs := #[.int .i64 0]) (t := 3) (List.mem_cons_self ..) 0; have f7 : ((w4.alloc (.cells #[.int .i64 0] 3)).setCell ⟨_, 0, none⟩ (.int .i64 ((h.l : Nat) : Int))).frozen? ⟨_, 0, none⟩ = false := (((unhide HKB).new (.cells #[.int .i64 0] 3)).set 1 rfl 0 (.int .i64 ((h.l : Nat) : Int))).frozen (cs := #[.int .i64 0]) (t := 3) (List.mem_cons_self ..) 0; have q8 : (w4.alloc (.cells #[.int .i64 ((h.l : Nat) : Int)] 3)).cell? ⟨_, 0, none⟩ = some (.int .i64 0) := ((unhide HKB).new (.cells #[.int .i64 ((h.l : Nat) : Int)] 3)).cell (cs := #[.int .i64 0]) (t := 3) (List.mem_cons_of_mem _ (List.mem_cons_self ..)) 0; have f8 : (w4.alloc (.cells #[.int .i64 ((h.l : Nat) : Int)] 3)).frozen? ⟨_, 0, none⟩ = false := ((unhide HKB).new (.cells #[.int .i64 ((h.l : Nat) : Int)] 3)).frozen (cs := #[.int .i64 0]) (t := 3) (List.mem_cons_of_mem _ (List.mem_cons_self ..)) 0; (first | simp only [World.size_alloc] at q5 f5 q6 f6 q7 f7 q8 f8 | skip)) | skip)))
      all_goals (
        go_wp2_with fail
        go_meet
        first
          | exact ⟨_, _, rfl, rfl, (((unhide HKB).set 1 rfl 0 (.int .i64 ((h.l : Nat) : Int))).set 0 rfl 0 (.int .i64 ((1 - h.l : Nat) : Int)))⟩
          | exact ⟨_, _, rfl, rfl, ((((unhide HKB).set 0 rfl 0 (.int .i64 ((h.l : Nat) : Int))).set 1 rfl 0 (.int .i64 ((1 - h.l : Nat) : Int))).perm (List.Perm.swap _ _ _))⟩
          | exact ⟨_, _, rfl, rfl, ((((unhide HKB).new (.cells #[.int .i64 0] 3)).set 1 rfl 0 (.int .i64 ((h.l : Nat) : Int))).set 0 rfl 0 (.int .i64 ((1 - h.l : Nat) : Int)))⟩
          | exact ⟨_, _, rfl, rfl, ((((unhide HKB).new (.cells #[.int .i64 ((h.l : Nat) : Int)] 3)).set 1 rfl 0 (.int .i64 ((1 - h.l : Nat) : Int))).perm (List.Perm.swap _ _ _))⟩
          | exact ⟨_, _, rfl, rfl, (((unhide HKB).new (.cells #[.int .i64 ((h.l : Nat) : Int)] 3)).newAt (.cells #[.int .i64 ((1 - h.l : Nat) : Int)] 3) (by simp))⟩
          | exact ⟨_, _, rfl, rfl, ((((unhide HKB).new (.cells #[.int .i64 ((1 - h.l : Nat) : Int)] 3)).newAt (.cells #[.int .i64 ((h.l : Nat) : Int)] 3) (by simp)).perm (List.Perm.swap _ _ _))⟩
          | exact ⟨_, _, rfl, rfl, (((((unhide HKB).new (.cells #[.int .i64 0] 3)).newAt (.cells #[.int .i64 ((h.l : Nat) : Int)] 3) (by simp)).set 1 rfl 0 (.int .i64 ((1 - h.l : Nat) : Int))).perm (List.Perm.swap _ _ _))⟩)
    obtain ⟨fb, tb, rfl, rfl, hk4⟩ := hcut
    have HK4 := hide hk4
    clear hk4 HK2 c1 c2 c3 c4
    generalize wc = W4 at *
    have c1 : W4.cell? ⟨jb, 0, none⟩ = some (.pointer (some ⟨g, 0, none⟩)) := (unhide HK4).cell (t := 30) (cs := #[.pointer (some ⟨g, 0, none⟩)]) (by simp) 0
    have hgm : (g, Obj.cells (jCells g p h) tj (0, 0)) ∈ ((tb, Obj.cells #[.int .i64 ((1 - h.l : Nat) : Int)] 3 (0, 0)) :: (fb, Obj.cells #[.int .i64 ((h.l : Nat) : Int)] 3 (0, 0)) :: (bb, Obj.cells #[.slice ba bn bc] 49 (0, 0)) :: (jb, Obj.cells #[.pointer (some ⟨g, 0, none⟩)] 30 (0, 0)) :: MJ M g p tj h) := List.mem_cons_of_mem _ (List.mem_cons_of_mem _ (List.mem_cons_of_mem _ (List.mem_cons_of_mem _ (unhide HG))))
    have c2 : W4.cell? ⟨g, 2, none⟩ = some (.int .u64 ((h.s : Nat) : Int)) := (unhide HK4).cell hgm 2
    have c3 : W4.cell? ⟨g, 3, none⟩ = some (.int .u64 ((h.e : Nat) : Int)) := (unhide HK4).cell hgm 3
    have c4 : W4.cell? ⟨g, 4, none⟩ = some (.int .u8 ((h.l : Nat) : Int)) := (unhide HK4).cell hgm 4
    clear hgm
    have HK5 := hide ((unhide HK4).new (.cells #[.int .u64 ((h.s : Nat) : Int), .int .u64 ((h.e : Nat) : Int), .int .u8 ((h.l : Nat) : Int)] 37))
    clear HK4
    go_upto_region 8 with fail
    generalize hW5 : W4.alloc (.cells #[.int .u64 ((h.s : Nat) : Int), .int .u64 ((h.e : Nat) : Int), .int .u8 ((h.l : Nat) : Int)] 37) = W5 at *
    clear hW5
    generalize W4.heap.size = nb at *
    clear c1 c2 c3 c4
    have c5 : W5.cell? ⟨tb, 0, none⟩ = some (.int .i64 ((1 - h.l : Nat) : Int)) := (unhide HK5).cell (List.mem_cons_of_mem _ (List.mem_cons_self ..)) 0
    have c6 : W5.cell? ⟨nb, 2, none⟩ = some (.int .u8 ((h.l : Nat) : Int)) := (unhide HK5).cell (List.mem_cons_self ..) 2
    have f6 : W5.frozen? ⟨nb, 2, none⟩ = false := (unhide HK5).frozen (List.mem_cons_self ..) 2
    have HK6 := hide ((unhide HK5).set 0 rfl 2 (.int .u8 ((1 - h.l : Nat) : Int)))
    have hwl : ((1 - h.l : Nat) : Int) < 256 := by have := unhide HL; omega
    have hwl0 : 0 ≤ ((1 - h.l : Nat) : Int) := by omega
    obtain ⟨ol, hol⟩ : ∃ ol : Nat, 1 - h.l = ol := ⟨_, rfl⟩
    rw [hol] at c5 HK6 hwl hwl0
    have HOL := hide hol
    clear hol HK5
    go_upto_region 9 with fail
    generalize hW6 : W5.setCell ⟨nb, 2, none⟩ (.int .u8 ((ol : Nat) : Int)) = W6 at *
    clear hW6 c5 c6 f6
    rw [← unhide HOL] at HK6
    clear HOL hwl hwl0
    have HK7 := hide ((unhide HK6).new (.cells (swF jb tb bb nb fb) 108))
    clear HK6
    have HSF : Hid (swF jb tb bb nb fb = #[.func (.func 38) #[] #[.pointer (some ⟨jb, 0, none⟩), .pointer (some ⟨tb, 0, none⟩), .pointer (some ⟨bb, 0, none⟩)], .func (.func 39) #[] #[.pointer (some ⟨jb, 0, none⟩), .pointer (some ⟨tb, 0, none⟩)], .func (.func 41) #[] #[.pointer (some ⟨jb, 0, none⟩), .pointer (some ⟨nb, 0, none⟩)], .func (.func 43) #[] #[.pointer (some ⟨jb, 0, none⟩), .pointer (some ⟨fb, 0, none⟩)]]) := by rfl
    go_wp2_with fail
    rw [← unhide HSF]
    refine (sw_turn (M := M) (tj := tj) (unhide HL) (unhide HF) _ nb tb fb bb jb _ ba bn bc bs _ _ _ _ _ _ _ (List.mem_cons_self ..) rfl (unhide HK7)).mono ?_
    rintro x W7 ⟨rfl, hk⟩
    have HK8 := hide hk
    clear hk HK7
    go_wp2_with fail
    go_ret
    rw [(unhide HP1).1, (unhide HP1).2.1, (unhide HP1).2.2]
    exact ⟨rfl, (unhide HK8).lessL fun q hq => List.mem_cons_of_mem _ hq⟩
  · have h0' : (E != 0) = true := bne_iff_ne.2 h0
    have H0 := hide h0
    clear h0
    go_wp2_with fail
    go_ret
    rw [(unhide HPE (unhide H0)).1, (unhide HPE (unhide H0)).2.1, (unhide HPE (unhide H0)).2.2]
    exact ⟨rfl, ((unhide HK2).drop 2).lessL fun q hq => List.mem_cons_of_mem _ hq⟩
end
end Go.Proofs.Ytflfiobicapopaa
