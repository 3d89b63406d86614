/-
  Both packages say what RefsDoes' walk leans on.
-/
import Derived.Test.YtmdakplaaehmnaaLawIW
import Derived.Test.YtmdakplaaehmnaaJm
namespace Go.Proofs.Ytmdakplaaehmnaa
open Go.RowKit

theorem doesSays : DoesSays where
  pchk := fun A n c l w h => check_any A n c l w h.1 (fun x hx => by have := h.2.2.2 x hx; omega) (by have := h.2.2.1; omega)
  rchk := fun A n c l w h => rchkI_any A n c l w h.1 (fun x hx => by have := h.2.2.2 x hx; omega) (by have := h.2.2.1; omega)
  padd := fun A n c l S w h hS => (add_any A n c l S w h.1 (fun x hx => by have := h.2.2.2 x hx; omega) (by have := h.2.2.1; omega) (by omega)).mono fun e w' ⟨v, he, ho, hb⟩ => by
    obtain ⟨A', n', c', rfl, hw⟩ := Im.Wide.own ho (Im.add_size _ _).1 (Im.add_size _ _).2
    exact ⟨A', n', c', he, hw, hb⟩
  radd := fun A n c l S w h hS => (raddI_any A n c l S w h.1 h.2.1 (fun x hx => by have := h.2.2.2 x hx; omega) (by have := h.2.2.1; omega) (by unfold maxLen; omega)).mono fun e w' ⟨v, he, ho, hb⟩ => by
    obtain ⟨A', n', c', rfl, hw⟩ := Im.Wide.own ho (Im.add_size _ _).1 (Im.add_size _ _).2
    exact ⟨A', n', c', he, hw, hb⟩
  pdrop := fun A n c l d w h => (drop_any A n c l d w h.1 (fun x hx => by have := h.2.2.2 x hx; omega) (by have := h.2.2.1; omega)).mono fun e w' ⟨v, he, ho, hb⟩ => by
    obtain ⟨A', n', c', rfl, hw⟩ := Im.Wide.own ho (Im.drop_size _ _).1 (Im.drop_size _ _).2
    exact ⟨A', n', c', he, hw, hb⟩
  rdrop := fun A n c l d w h => (rdropI_any A n c l d w h.1 h.2.1 (fun x hx => by have := h.2.2.2 x hx; omega) (by have := h.2.2.1; omega)).mono fun e w' ⟨v, he, ho, hb⟩ => by
    obtain ⟨A', n', c', rfl, hw⟩ := Im.Wide.own ho (Im.drop_size _ _).1 (Im.drop_size _ _).2
    exact ⟨A', n', c', he, hw, hb⟩
  pget := fun A n c l d w h => get_any A n c l d w h.1 (fun x hx => by have := h.2.2.2 x hx; omega) (by have := h.2.2.1; omega)
  rget := fun A n c l d w h => rgetI_any A n c l d w h.1 (fun x hx => by have := h.2.2.2 x hx; omega) (by have := h.2.2.1; omega)
  ptot := fun A n c l w h => total_any A n c l w h.1 (fun x hx => by have := h.2.2.2 x hx; omega) (by have := h.2.2.1; omega)
  rtot := fun A n c l w h => rtotI_any A n c l w h.1 (fun x hx => by have := h.2.2.2 x hx; omega) (by have := h.2.2.1; omega)
  psame := fun A A' n n' c c' l l' w h h' => same_any A A' n n' c c' l l' w h.1 h'.1 (by have := h.2.2.1; omega) (by have := h'.2.2.1; omega)
  rsame := fun A A' n n' c c' l l' w h h' => rsameI_any A A' n n' c c' l l' w h.1 h'.1 (by have := h.2.2.1; omega) (by have := h'.2.2.1; omega)

end Go.Proofs.Ytmdakplaaehmnaa
